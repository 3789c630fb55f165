/- A platform with other groups: the document's own copy. -/
import Derived.Test.YtepblnnebeglbaaCellS
namespace Go.Proofs.Ytepblnnebeglbaa
open Go.RowKit Go.Proofs.Gn
def sg (s : Gs.Sup) (v : Int) : Gs.Sup := { s with g := v }
def grp (ps : List Gs.Sup) (gr : List Int) : List Gs.Sup := List.zipWith sg ps gr
theorem grp_len {ps : List Gs.Sup} {gr : List Int} (h : gr.length = ps.length) : (grp ps gr).length = ps.length := by unfold grp; rw [List.length_zipWith]; omega
theorem grp_at {ps : List Gs.Sup} {gr : List Int} {k : Nat} (h : k < (grp ps gr).length) (h1 : k < ps.length) (h2 : k < gr.length) : (grp ps gr)[k] = sg ps[k] gr[k] := by simp [grp]
/-- The first k supports of the copy at block g have other groups. -/
def GAt (W : World) (g : Nat) (ps : List Gs.Sup) (gr : List Int) (k : Nat) : Prop := ∀ j (hj : j < ps.length), SupAt W g (0 + j * 6) (if j < k then sg ps[j] (gr[j]?.getD 0) else ps[j]) ∧ W.frozen? ⟨g, 0 + j * 6 + 2, none⟩ = false
theorem g_same {W W' : World} {g k : Nat} {ps : List Gs.Sup} {gr : List Int} (h : GAt W g ps gr k) (hb : W'.heap[g]? = W.heap[g]?) : GAt W' g ps gr k := by
  intro j hj
  obtain ⟨⟨c0, c1, c2, c3, c4, c5⟩, f0⟩ := h j hj
  have e : ∀ o, W'.cell? ⟨g, o, none⟩ = W.cell? ⟨g, o, none⟩ := fun o => World.cell?_of_block (a := ⟨g, o, none⟩) hb
  have e' : ∀ o, W'.frozen? ⟨g, o, none⟩ = W.frozen? ⟨g, o, none⟩ := fun o => by simp [World.frozen?, hb]
  unfold SupAt
  simp only [e, e']
  exact ⟨⟨c0, c1, c2, c3, c4, c5⟩, f0⟩
theorem g_new {W : World} {base e n g cap : Nat} {ps : List Gs.Sup} (gr : List Int) (h : W.ownsRow base e 6 (.slice (some ⟨g, 0, none⟩) n cap) n (cellsS ps)) : GAt W g ps gr 0 := by
  have hn : n = ps.length := by have := h.1; rw [cellsS_length] at this; omega
  subst hn
  intro j hj
  rw [if_neg (by omega)]
  obtain ⟨d0, d1, d2, d3, d4, d5⟩ := cellsS_at hj
  have c : ∀ i, i < 6 → W.cell? ⟨g, j * 6 + i, none⟩ = (cellsS ps)[j * 6 + i]? := fun i hi => h.cellAt (j * 6 + i) (by omega)
  have fz : ∀ o, W.frozen? ⟨g, o, none⟩ = false := by
    rcases h.2 with ⟨hx, _⟩ | ⟨g', cap', cur, e1, _, hg, _⟩
    · simp at hx
    · simp only [Value.slice.injEq, Option.some.injEq, Addr.mk.injEq, and_true, true_and] at e1
      obtain ⟨rfl, _⟩ := e1
      intro o
      simp [World.frozen?, hg]
  refine ⟨?_, fz _⟩
  unfold SupAt
  simp only [Nat.zero_add]
  have c0 := c 0 (by omega)
  simp only [Nat.add_zero] at c0
  rw [c0, c 1 (by omega), c 2 (by omega), c 3 (by omega), c 4 (by omega), c 5 (by omega)]
  exact ⟨d0, d1, d2, d3, d4, d5⟩
theorem g_step {W : World} {g k : Nat} {ps : List Gs.Sup} {gr : List Int} (h : GAt W g ps gr k) (hk : k < ps.length) (hk2 : k < gr.length) : GAt (W.setCell ⟨g, 0 + k * 6 + 2, none⟩ (.int .i64 gr[k])) g ps gr (k + 1) := by
  intro j hj
  obtain ⟨⟨c0, c1, c2, c3, c4, c5⟩, f0⟩ := h j hj
  have ot : ∀ (o : Nat) v, W.cell? ⟨g, o, none⟩ = some v → o ≠ 0 + k * 6 + 2 → (W.setCell ⟨g, 0 + k * 6 + 2, none⟩ (.int .i64 gr[k])).cell? ⟨g, o, none⟩ = some v := by
    intro o v hv h1
    rw [World.cell?_setCell_other]
    · exact hv
    · intro e; injection e with _ e _; omega
  refine ⟨?_, by rw [World.frozen?_setCell]; exact f0⟩
  by_cases e : j = k
  · subst e
    rw [if_neg (by omega)] at c0 c1 c2 c3 c4 c5
    rw [if_pos (by omega), List.getElem?_eq_getElem hk2]
    refine ⟨ot _ _ c0 (by omega), ot _ _ c1 (by omega), ?_, ot _ _ c3 (by omega), ot _ _ c4 (by omega), ot _ _ c5 (by omega)⟩
    show _ = some (Value.int .i64 gr[j])
    go_cell
  · have hc : (if j < k + 1 then sg ps[j] (gr[j]?.getD 0) else ps[j]) = (if j < k then sg ps[j] (gr[j]?.getD 0) else ps[j]) := by
      by_cases x : j < k
      · rw [if_pos (by omega), if_pos x]
      · rw [if_neg (by omega), if_neg x]
    rw [hc]
    exact ⟨ot _ _ c0 (by omega), ot _ _ c1 (by omega), ot _ _ c2 (by omega), ot _ _ c3 (by omega), ot _ _ c4 (by omega), ot _ _ c5 (by omega)⟩
theorem g_sups {W : World} {g : Nat} {ps : List Gs.Sup} {gr : List Int} (hl : gr.length = ps.length) (h : GAt W g ps gr ps.length) : Sups W (some ⟨g, 0, none⟩) (grp ps gr) := by
  refine .inr ⟨g, 0, rfl, fun k hk => ?_⟩
  have hk' : k < ps.length := by rw [grp_len hl] at hk; exact hk
  have := (h k hk').1
  rw [if_pos hk', List.getElem?_eq_getElem (by omega)] at this
  rw [grp_at hk hk' (by omega)]
  exact this
set_option maxRecDepth 100000 in
set_option maxHeartbeats 8000000 in
theorem r_Grouped (A : Option Addr) (ps : List Gs.Sup) (cap : Nat) (B : Option Addr) (gr : List Int) (capg : Nat) (hl : gr.length = ps.length) (h0 : 0 < ps.length) (hn : ps.length ≤ 48) (w : World) (hp : Sups w A ps) (hg : Ints w B gr) :
    Calls Try.prog 10 #[.slice A ps.length cap, .slice B gr.length capg] w fun e w' => (∃ g c, e = .returned (.slice (some ⟨g, 0, none⟩) (grp ps gr).length c) ∧ Sups w' (some ⟨g, 0, none⟩) (grp ps gr)) ∧ Up w w' := by
  rw [grp_len hl]
  rcases hp with hx | ⟨ba, off, rfl, hc⟩
  · rw [hx] at h0; simp at h0
  rcases hg with hx | ⟨bg, offg, rfl, hcg⟩
  · rw [hx] at hl; simp at hl; omega
  have HC := hide hc
  have HG := hide hcg
  clear hc hcg
  obtain ⟨i1', hj, hy0, hy1, hy2⟩ := info_parts info_sup
  have HJ := hide hj
  clear hj
  rw [hl]
  obtain ⟨n, hN⟩ : ∃ n, ps.length = n := ⟨_, rfl⟩
  have HN := hide hN
  have HM := hide (hl.trans hN)
  have HL := hide hl
  rw [hN] at h0 hn ⊢
  clear hN hl
  have hls : (cellsS ps).length = n * 6 := by rw [cellsS_length, unhide HN]
  have HNW := hide (cellsS_news (W := w.alloc (.cells #[] 33)) fun k hk => supAt_up (unhide HC k hk) (up_alloc (up_refl w) _))
  go_enter Try.func10, Try.ntmps10
  go_wp2_with (at_builtin; refine wpList_append_own _ rfl _ _ 22 rfl w.heap.size 33 i1' _ 6 48 Try.underlying22 (unhide HJ) hy0 hy1 hy2 rfl (by decide) (.slice (some ⟨w.heap.size, 0, none⟩) 0 0) 0 [] rfl (World.ownsRow_made w #[] 0 (Nat.le_refl _) (by unfold maxLen; omega) rfl) ⟨ba, off, none⟩ n cap (cellsS ps) rfl hls (unhide HNW) (cellsS_one ps) (by unfold maxLen; omega) (by omega) (by simp) ?_; intro vq W2 hown hgrow _)
  simp only [Nat.zero_add, List.nil_append] at hown
  rcases hown.2 with ⟨_, h00⟩ | ⟨g, cq, cur, rfl, hbg, hgg, _⟩
  · omega
  have U2 : Up w W2 := (up_alloc (up_refl w) _).grown hgrow (up_alloc (up_refl w) _).size (by intro j hj; simp [Value.ownBlock] at hj; omega)
  have Q2 := hide (g_new gr hown)
  clear hown hgrow hgg HNW hls
  go_wp2_with fail
  go_loopw [6] (fun s6 wr => ∃ k : Nat, k ≤ n ∧ s6 = .int .i64 k ∧ GAt wr g ps gr k ∧ Up w wr) (fun s6 _ => n - (intOf s6).toNat)
  case atStart => exact ⟨0, by omega, rfl, unhide Q2, U2⟩
  case round =>
    obtain ⟨k, hk, rfl, hQ, hu⟩ := hrel
    clear Q2 U2
    by_cases hlt : k < n
    · have hl : k < ps.length := by rw [unhide HN]; exact hlt
      have hl2 : k < gr.length := by rw [unhide HM]; exact hlt
      have kg := up_cell hu (unhide HG k hl2)
      obtain ⟨⟨_, _, c2, _, _, _⟩, f2⟩ := hQ k hl
      have c2' := c2
      have f2' := f2
      rw [Nat.zero_add] at c2' f2'
      have QS := hide (g_step hQ hl hl2)
      obtain ⟨y, hy⟩ : ∃ y, gr[k] = y := ⟨_, rfl⟩
      rw [hy] at kg QS
      clear hQ hy
      have i0 : (0 : Int) ≤ (k : Int) := by omega
      have i1 : (k : Int) < (n : Int) := by omega
      go_upto_region 4 with fail
      refine at_wp (fun W3 hW3 => ?_)
      have Q3 : GAt W3 g ps gr (k + 1) := by rw [hW3]; simpa using unhide QS
      have U3 : Up w W3 := by rw [hW3]; exact up_set hu (by simp; omega) _
      clear hW3 QS c2 c2' f2 f2' kg
      go_wp2_with fail
      go_roundw
      case rel => exact ⟨k + 1, by omega, by go_num, Q3, U3⟩
      case measure => simp [intOf]; omega
    · obtain rfl : k = n := by omega
      have hQ' : GAt wr g ps gr ps.length := by rw [unhide HN]; exact hQ
      have hS := g_sups (unhide HL) hQ'
      clear hQ hQ'
      go_wp2_with fail
      go_ret
      exact ⟨⟨g, cq, rfl, hS⟩, hu⟩
end Go.Proofs.Ytepblnnebeglbaa
