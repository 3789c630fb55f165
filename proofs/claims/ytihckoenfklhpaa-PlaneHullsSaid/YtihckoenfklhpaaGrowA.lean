/- The reference's grown hull: it is the sum with a square. The reference's Grow. Grow, for any list and any number: it answers as the reference does. -/
import Derived.Test.YtihckoenfklhpaaArA
import Derived.Test.YtihckoenfklhpaaGrow
namespace Go.Proofs.Gx
/-- The corners of a square around a point. -/
def sq4 (t : Int) (p : P2) : List P2 := [(p.1 - t, p.2 - t), (p.1 + t, p.2 - t), (p.1 - t, p.2 + t), (p.1 + t, p.2 + t)]
def gl (ps : List P2) (t : Int) : List P2 := ps.flatMap (sq4 t)
theorem gl_snoc (ps : List P2) (p : P2) (t : Int) : gl (ps ++ [p]) t = gl ps t ++ sq4 t p := by simp [gl]
theorem gl_len (ps : List P2) (t : Int) : (gl ps t).length = 4 * ps.length := by
  induction ps with
  | nil => rfl
  | cons a l ih =>
    have : gl (a :: l) t = sq4 t a ++ gl l t := by simp [gl]
    rw [this, List.length_append, ih, List.length_cons]
    simp [sq4]
    omega
theorem mem_gl {ps : List P2} {t : Int} {q : P2} : q ∈ gl ps t ↔ ∃ p ∈ ps, q ∈ sq4 t p := by simp [gl, List.mem_flatMap]
/-- The hull of all these corners is the sum. -/
theorem grown_eq {a G : List P2} {t : Int} (ha : a ≠ []) (hp : Path a (sqL t) G) : hullF (gl a t) = G := by
  have key : ∀ p q : P2, q ∈ sq4 t p ↔ ∃ s ∈ sqL t, q = ad p s := fun p q => by
    unfold sqL sq4 ad
    by_cases h : t = 0
    · subst h
      rw [if_pos rfl]
      simp
    · rw [if_neg h]
      unfold sq
      simp only [List.mem_cons, List.not_mem_nil, or_false]
      constructor
      · rintro (rfl | rfl | rfl | rfl)
        · exact ⟨(-t, -t), .inl rfl, by simp only [Int.sub_eq_add_neg]⟩
        · exact ⟨(t, -t), .inr (.inl rfl), by simp only [Int.sub_eq_add_neg]⟩
        · exact ⟨(-t, t), .inr (.inr (.inr rfl)), by simp only [Int.sub_eq_add_neg]⟩
        · exact ⟨(t, t), .inr (.inr (.inl rfl)), rfl⟩
      · rintro ⟨s, rfl | rfl | rfl | rfl, rfl⟩
        · exact .inl (by simp only [Int.sub_eq_add_neg])
        · exact .inr (.inl (by simp only [Int.sub_eq_add_neg]))
        · exact .inr (.inr (.inr rfl))
        · exact .inr (.inr (.inl (by simp only [Int.sub_eq_add_neg])))
  have hne : gl a t ≠ [] := by
    intro e
    have := gl_len a t
    rw [e] at this
    exact ha (List.eq_nil_of_length_eq_zero (by simp only [List.length_nil] at this; omega))
  obtain ⟨p, i, m⟩ := hullF_poly hne
  refine poly_ext p (path_poly hp) (fun r hr => ?_) (fun r hr => ?_)
  · obtain ⟨x, hx, s, hs, rfl⟩ := hp.mem r hr
    exact i _ (mem_gl.2 ⟨x, hx, (key x _).2 ⟨s, hs, rfl⟩⟩)
  · obtain ⟨x, hx, h⟩ := mem_gl.1 (m r hr)
    obtain ⟨s, hs, rfl⟩ := (key x r).1 h
    exact path_sc hp hx hs
end Go.Proofs.Gx
namespace Go.Proofs.Ytihckoenfklhpaa
open Go.RowKit Go.Proofs.Gn
theorem news_any (W : World) (vs : List Value) (t : TypeId) : ∀ j u, vs[j]? = some u → (W.alloc (.cells vs.toArray t)).cell? ((⟨W.heap.size, 0, none⟩ : Addr).add j) = some u := fun j u hj => by
  have e : (⟨W.heap.size, 0, none⟩ : Addr).add j = ⟨W.heap.size, j, none⟩ := by unfold Addr.add; split <;> simp_all
  rw [e]
  exact (bx_new W vs t j u hj).1
theorem news_any8 (W : World) (o : Obj) (a b c d e f g h : Value) (t : TypeId) : ∀ j u, [a, b, c, d, e, f, g, h][j]? = some u → ((W.alloc o).alloc (.cells #[a, b, c, d, e, f, g, h] t)).cell? ((⟨W.heap.size + 1, 0, none⟩ : Addr).add j) = some u := by
  have q := news_any (W.alloc o) [a, b, c, d, e, f, g, h] t
  rw [sz1'] at q
  exact q
set_option maxRecDepth 100000 in
set_option maxHeartbeats 4000000 in
theorem r_Grown (b off : Nat) (ps : Pl) (cap : Nat) (t : Int) (w : World) (h : Pts w (some ⟨b, off, none⟩) ps) (hl : ps.length ≤ 256) (ho : okL ps = true) (t0 : 0 ≤ t) (t1 : t ≤ 33554432) :
    Calls Try.prog 49 #[.slice (some ⟨b, off, none⟩) ps.length cap, .int .i64 t] w fun e w' => ∃ v, e = .returned v ∧ w'.ownsRow w.heap.size 24 2 v (Gx.hullF (Gx.gl ps t)).length (cellsPl (Gx.hullF (Gx.gl ps t))) ∧ Up w w' := by
  have HS := hide h
  have HOK := hide ho
  have PC : ∀ (v : Value) (c : Nat) (W : World), Up w W → W.ownsRow w.heap.size 24 2 v c (cellsPl (Gx.gl ps t)) → Calls Try.prog 36 #[v] W fun e w' => ∃ v, e = .returned v ∧ w'.ownsRow w.heap.size 24 2 v (Gx.hullF (Gx.gl ps t)).length (cellsPl (Gx.hullF (Gx.gl ps t))) ∧ Up W w' := fun v c W hu hown => by
    obtain ⟨A1, c1, rfl, hp⟩ := own_pts hown
    refine (r_Corners A1 (Gx.gl ps t) c1 W hp (by rw [Gx.gl_len]; omega) (fun q hq => ?_)).mono fun e w' ⟨v, he, hown', hup⟩ => ⟨v, he, own_base hown' hu.size, hup⟩
    obtain ⟨p, hpm, hq⟩ := Gx.mem_gl.1 hq
    have bp := okp_yes (List.all_eq_true.1 ho p hpm)
    have q1 := okc_yes bp.1
    have q2 := okc_yes bp.2
    unfold Gx.sq4 at hq
    simp only [List.mem_cons, List.not_mem_nil, or_false] at hq
    unfold Bd
    rcases hq with rfl | rfl | rfl | rfl <;> (simp only; omega)
  have HPC := hide PC
  obtain ⟨n, hN⟩ : ∃ n, ps.length = n := ⟨_, rfl⟩
  rw [hN] at hl ⊢
  have HN := hide hN
  obtain ⟨i0', hi, hz0, hz1, hz2⟩ := info_parts info_pt
  have HI := hide hi
  clear PC hN h ho hi
  go_enter Try.func49, Try.ntmps49
  go_wp2_with fail
  go_loopw [5, 6] (fun s5 s6 wr => ∃ k : Nat, k ≤ n ∧ s6 = .int .i64 k ∧ wr.ownsRow w.heap.size 24 2 s5 (4 * k) (cellsPl (Gx.gl (ps.take k) t)) ∧ Up w wr) (fun _ s6 _ => n - (intOf s6).toNat)
  case atStart => exact ⟨0, Nat.zero_le _, rfl, World.ownsRow_nil _ _ _ _, up_refl _⟩
  case round =>
    obtain ⟨k, hk, rfl, hown, hu⟩ := hrel
    by_cases hlt : k < n
    · have h1' : (k : Int) < (n : Int) := by omega
      have lk : k < ps.length := by rw [unhide HN]; exact hlt
      obtain ⟨b', off', he, hc⟩ := (unhide HS).resolve_left (by intro e; rw [e] at lk; simp at lk)
      obtain ⟨rfl, rfl⟩ : b = b' ∧ off = off' := by simpa using he
      obtain ⟨x0, x1⟩ := pts_g hc lk
      have bp := okp_yes (List.all_eq_true.1 (unhide HOK) _ (Gx.g_mem lk))
      have ht : Gx.gl (ps.take (k + 1)) t = Gx.gl (ps.take k) t ++ Gx.sq4 t (Gx.g ps k) := by rw [List.take_succ_eq_append_getElem lk, Gx.gl_snoc, Gx.g_eq lk]
      obtain ⟨X, hX⟩ : ∃ X, Gx.g ps k = X := ⟨_, rfl⟩
      rw [hX] at x0 x1 bp ht
      obtain ⟨x, y⟩ := X
      have q1 := okc_yes bp.1
      have q2 := okc_yes bp.2
      simp only at x0 x1 q1 q2
      have d0 := up_cell hu x0
      have d1 := up_cell hu x1
      have HT := hide (show cellsPl (Gx.gl (ps.take (k + 1)) t) = cellsPl (Gx.gl (ps.take k) t) ++ [.int .i64 (x - t), .int .i64 (y - t), .int .i64 (x + t), .int .i64 (y - t), .int .i64 (x - t), .int .i64 (y + t), .int .i64 (x + t), .int .i64 (y + t)] by rw [ht, cellsPl_append]; rfl)
      have HO := hide hown
      have HU := hide hu
      have v1 : IntKind.i64.wrap (x - t) = x - t := IntWalk.i64_in _ ⟨by omega, by omega⟩
      have v2 : IntKind.i64.wrap (y - t) = y - t := IntWalk.i64_in _ ⟨by omega, by omega⟩
      have v3 : IntKind.i64.wrap (x + t) = x + t := IntWalk.i64_in _ ⟨by omega, by omega⟩
      have v4 : IntKind.i64.wrap (y + t) = y + t := IntWalk.i64_in _ ⟨by omega, by omega⟩
      clear hc x0 x1 bp ht hX q1 q2 hown hu lk he
      go_wp2_with (at_builtin; refine wpList_append_own _ rfl _ _ 22 rfl w.heap.size 24 i0' _ 2 16 Try.underlying22 (unhide HI) hz0 hz1 hz2 rfl (by decide) _ (4 * k) (cellsPl (Gx.gl (ps.take k) t)) rfl (((unhide HO).alloc _).alloc _) _ 4 4 [.int .i64 (x - t), .int .i64 (y - t), .int .i64 (x + t), .int .i64 (y - t), .int .i64 (x - t), .int .i64 (y + t), .int .i64 (x + t), .int .i64 (y + t)] rfl rfl (news_any8 _ _ _ _ _ _ _ _ _ _ _) (by intro u hu; simp at hu; rcases hu with rfl | rfl | rfl | rfl | rfl | rfl | rfl | rfl <;> rfl) (by unfold maxLen; omega) (by omega) (by have := (unhide HU).size; simp; omega) ?_; intro v' w3 hown' hgrow _)
      have R1 : w3.ownsRow w.heap.size 24 2 v' (4 * (k + 1)) (cellsPl (Gx.gl (ps.take (k + 1)) t)) := by rw [unhide HT]; exact hown'
      have R2 : Up w w3 := own_grow (((unhide HO).alloc _).alloc _) (Nat.le_refl _) (up_alloc (up_alloc (unhide HU) _) _) hgrow
      first
        | exact ⟨⟨k + 1, by omega, by go_num, R1, R2⟩, by simp [intOf]; omega⟩
        | (go_roundw; (case rel => exact ⟨k + 1, by omega, by go_num, R1, R2⟩); (case measure => simp [intOf]; omega))
    · obtain rfl : k = n := by omega
      have h1' : ¬ (k : Int) < (k : Int) := by omega
      rw [List.take_of_length_le (by rw [unhide HN]; exact Nat.le_refl _)] at hown
      go_wp2_with (go_at_call 36; (with_reducible refine (unhide HPC _ _ _ (by repeat' (first | (with_reducible exact up_refl _) | (with_reducible assumption) | (with_reducible refine up_alloc ?_ _) | (with_reducible refine up_drewN ?_ _) | (with_reducible refine up_drew ?_) | (with_reducible refine up_set ?_ (by first | (simp; done) | (simp; omega) | omega) _) | (refine up_trans ?_ (by with_reducible assumption)))) hown).mono ?_); rintro e w5 ⟨v, rfl, hown5, hb5⟩)
      exact bodyPost_ret (by simp [results, Try.results49, go_sem]) rfl ⟨_, rfl, hown5, (by repeat' (first | (with_reducible exact up_refl _) | (with_reducible assumption) | (with_reducible refine up_alloc ?_ _) | (with_reducible refine up_drewN ?_ _) | (with_reducible refine up_drew ?_) | (with_reducible refine up_set ?_ (by first | (simp; done) | (simp; omega) | omega) _) | (refine up_trans ?_ (by with_reducible assumption))))⟩
end Go.Proofs.Ytihckoenfklhpaa
namespace Go.Proofs.Ytihckoenfklhpaa
open Go.RowKit Go.Proofs.Gn
def inT (t : Int) : Bool := decide (0 ≤ t) && decide (t ≤ 33554432)
theorem r_InT (t : Int) (w : World) : Calls Try.prog 48 #[.int .i64 t, .int .i64 0, .int .i64 33554432] w fun e w' => e = .returned (.bool (inT t)) ∧ Up w w' := by
  unfold inT
  by_cases h1 : 0 ≤ t
  · have d1 : decide (0 ≤ t) = true := decide_eq_true h1
    rw [d1]
    by_cases h2 : t ≤ 33554432
    · have d2 : decide (t ≤ 33554432) = true := decide_eq_true h2
      rw [d2]
      go_enter Try.func48, Try.ntmps48
      go_wp2_with fail
      go_ret
      exact ⟨rfl, (by repeat' (first | (with_reducible exact up_refl _) | (with_reducible assumption) | (with_reducible refine up_alloc ?_ _) | (with_reducible refine up_drewN ?_ _) | (with_reducible refine up_drew ?_) | (with_reducible refine up_set ?_ (by first | (simp; done) | (simp; omega) | omega) _) | (refine up_trans ?_ (by with_reducible assumption))))⟩
    · have d2 : decide (t ≤ 33554432) = false := decide_eq_false h2
      rw [d2]
      go_enter Try.func48, Try.ntmps48
      go_wp2_with fail
      go_ret
      exact ⟨rfl, (by repeat' (first | (with_reducible exact up_refl _) | (with_reducible assumption) | (with_reducible refine up_alloc ?_ _) | (with_reducible refine up_drewN ?_ _) | (with_reducible refine up_drew ?_) | (with_reducible refine up_set ?_ (by first | (simp; done) | (simp; omega) | omega) _) | (refine up_trans ?_ (by with_reducible assumption))))⟩
  · have d1 : decide (0 ≤ t) = false := decide_eq_false h1
    rw [d1]
    go_enter Try.func48, Try.ntmps48
    go_wp2_with fail
    go_ret
    exact ⟨rfl, (by repeat' (first | (with_reducible exact up_refl _) | (with_reducible assumption) | (with_reducible refine up_alloc ?_ _) | (with_reducible refine up_drewN ?_ _) | (with_reducible refine up_drew ?_) | (with_reducible refine up_set ?_ (by first | (simp; done) | (simp; omega) | omega) _) | (refine up_trans ?_ (by with_reducible assumption))))⟩
/-- The grown hull, and the error of Grow. -/
def grL (ps : Pl) (t : Int) : Pl := Gx.hullF (Gx.gl ps t)
def grE (ps : Pl) (t : Int) : Int := if hulR ps ps = 0 then if inT t then if (grL ps t).length ≤ 256 then if okL (grL ps t) then 0 else 4 else 6 else 3 else hulR ps ps
/-- What a Grow returns. -/
def GrowR (base : Nat) (ps : Pl) (t : Int) (e : Ending) (W : World) : Prop := (grE ps t ≠ 0 ∧ e = .returned (.tuple #[.slice none 0 0, .int .i64 (grE ps t)])) ∨ (grE ps t = 0 ∧ ∃ v, e = .returned (.tuple #[v, .int .i64 0]) ∧ W.ownsRow base 24 2 v (grL ps t).length (cellsPl (grL ps t)))
theorem grL_pos {ps : Pl} {t : Int} (h : ps ≠ []) : 0 < (grL ps t).length := by
  have hne : Gx.gl ps t ≠ [] := by
    intro e
    have := Gx.gl_len ps t
    rw [e] at this
    exact h (List.eq_nil_of_length_eq_zero (by simp only [List.length_nil] at this; omega))
  exact List.length_pos_iff.2 (Gx.hullF_poly hne).1.ne
set_option maxRecDepth 100000 in
set_option maxHeartbeats 4000000 in
theorem r_Grow (A : Option Addr) (ps : Pl) (cap : Nat) (t : Int) (w : World) (h : Pts w A ps) (hn : ps.length ≤ 60000) :
    Calls Try.prog 19 #[.slice A ps.length cap, .int .i64 t] w fun e w' => GrowR w.heap.size ps t e w' ∧ Up w w' := by
  have PH : ∀ W : World, Up w W → Calls Try.prog 40 #[.slice A ps.length cap, .slice A ps.length cap] W fun e w' => e = .returned (.int .i64 (hulR ps ps)) ∧ Up W w' := fun W hu => r_hulls A A ps ps cap cap W (pts_up h hu) (pts_up h hu) (by omega) (by omega)
  have PT : ∀ W : World, Calls Try.prog 48 #[.int .i64 t, .int .i64 0, .int .i64 33554432] W fun e w' => e = .returned (.bool (inT t)) ∧ Up W w' := fun W => r_InT t W
  have QE : ∀ (z : Int) (W : World), grE ps t = z → z ≠ 0 → GrowR w.heap.size ps t (.returned (.tuple #[.slice none 0 0, .int .i64 z])) W := fun z W e h => by subst e; exact .inl ⟨h, rfl⟩
  have QO : ∀ (v : Value) (W : World), grE ps t = 0 → W.ownsRow w.heap.size 24 2 v (grL ps t).length (cellsPl (grL ps t)) → GrowR w.heap.size ps t (.returned (.tuple #[v, .int .i64 0])) W := fun v W e h => .inr ⟨e, v, rfl, h⟩
  obtain ⟨Qp, hQp⟩ : ∃ Qp : Ending → World → Prop, GrowR w.heap.size ps t = Qp := ⟨_, rfl⟩
  rw [hQp] at QE QO ⊢
  clear hQp
  have HQE := hide QE
  by_cases c : hulR ps ps = 0
  · have hv := (hulR_zero c).1
    obtain ⟨b, off, rfl, hc⟩ := h.resolve_left (by intro e; have := hv.pos; rw [e] at this; simp at this)
    have PG : inT t = true → ∀ W : World, Up w W → Calls Try.prog 49 #[.slice (some ⟨b, off, none⟩) ps.length cap, .int .i64 t] W fun e w' => ∃ v, e = .returned v ∧ w'.ownsRow w.heap.size 24 2 v (grL ps t).length (cellsPl (grL ps t)) ∧ Up W w' := fun hi W hu => by
      unfold inT at hi
      simp only [Bool.and_eq_true, decide_eq_true_eq] at hi
      exact (r_Grown b off ps cap t W (pts_up (.inr ⟨b, off, rfl, hc⟩) hu) hv.len hv.ok hi.1 hi.2).mono fun e w' ⟨v, he, ho, hup⟩ => ⟨v, he, own_base ho hu.size, hup⟩
    have g0 := grL_pos (t := t) hv.poly.ne
    have hE : grE ps t = if inT t then if (grL ps t).length ≤ 256 then if okL (grL ps t) then 0 else 4 else 6 else 3 := by unfold grE; rw [if_pos c]
    rw [c] at PH
    obtain ⟨n, hN⟩ : ∃ n, ps.length = n := ⟨_, rfl⟩
    rw [hN] at PH PG ⊢
    have HPH := hide PH
    clear PH hN hc hv c h hn
    obtain ⟨G, hG⟩ : ∃ G, grL ps t = G := ⟨_, rfl⟩
    rw [hG] at PG g0 hE QO
    clear hG QE
    cases hi : inT t
    · rw [hi] at PT
      have HPT := hide PT
      have HE : Hid (grE ps t = 3) := hide (by rw [hE, hi]; rfl)
      clear PT PG hi hE QO
      go_enter Try.func19, Try.ntmps19
      go_wp2_with (first
        | (go_at_call 40; (with_reducible refine (unhide HPH _ (by repeat' (first | (with_reducible exact up_refl _) | (with_reducible assumption) | (with_reducible refine up_alloc ?_ _) | (with_reducible refine up_drewN ?_ _) | (with_reducible refine up_drew ?_) | (with_reducible refine up_set ?_ (by first | (simp; done) | (simp; omega) | omega) _) | (refine up_trans ?_ (by with_reducible assumption))))).mono ?_); rintro e w1 ⟨rfl, hb1⟩)
        | (go_at_call 48; (with_reducible refine (unhide HPT _).mono ?_); rintro e w2 ⟨rfl, hb2⟩))
      exact bodyPost_ret (v := .tuple #[.slice none 0 0, .int .i64 3]) (by simp [results, Try.results19, go_sem]) rfl ⟨unhide HQE 3 _ (unhide HE) (by decide), (by repeat' (first | (with_reducible exact up_refl _) | (with_reducible assumption) | (with_reducible refine up_alloc ?_ _) | (with_reducible refine up_drewN ?_ _) | (with_reducible refine up_drew ?_) | (with_reducible refine up_set ?_ (by first | (simp; done) | (simp; omega) | omega) _) | (refine up_trans ?_ (by with_reducible assumption))))⟩
    · have PG' := PG hi
      rw [hi] at PT
      have HPT := hide PT
      have HPG := hide PG'
      rw [hi, if_pos rfl] at hE
      clear PT PG PG' hi
      obtain ⟨m, hM⟩ : ∃ n, G.length = n := ⟨_, rfl⟩
      rw [hM] at g0 HPG QO hE
      have HQO := hide QO
      have HM := hide hM
      clear hM QO
      by_cases h6 : m ≤ 256
      · have z6 : decide ((256 : Int) < (m : Int)) = false := decide_eq_false (by omega)
        have z6' : ¬ (256 : Int) < (m : Int) := by omega
        rw [if_pos h6] at hE
        have HE := hide hE
        clear hE
        go_enter Try.func19, Try.ntmps19
        go_wp2_with (first
          | (go_at_call 40; (with_reducible refine (unhide HPH _ (by repeat' (first | (with_reducible exact up_refl _) | (with_reducible assumption) | (with_reducible refine up_alloc ?_ _) | (with_reducible refine up_drewN ?_ _) | (with_reducible refine up_drew ?_) | (with_reducible refine up_set ?_ (by first | (simp; done) | (simp; omega) | omega) _) | (refine up_trans ?_ (by with_reducible assumption))))).mono ?_); rintro e w1 ⟨rfl, hb1⟩)
          | (go_at_call 48; (with_reducible refine (unhide HPT _).mono ?_); rintro e w2 ⟨rfl, hb2⟩)
          | (go_at_call 49; (with_reducible refine (unhide HPG _ (by repeat' (first | (with_reducible exact up_refl _) | (with_reducible assumption) | (with_reducible refine up_alloc ?_ _) | (with_reducible refine up_drewN ?_ _) | (with_reducible refine up_drew ?_) | (with_reducible refine up_set ?_ (by first | (simp; done) | (simp; omega) | omega) _) | (refine up_trans ?_ (by with_reducible assumption))))).mono ?_); rintro e w3 ⟨v, rfl, hown, hb3⟩; obtain ⟨g, cp, rfl, g1, g2, g3⟩ := own_some hown g0; have HO := hide hown; clear hown))
        have HC := hide (own_cells (unhide HO))
        have HU := hide (show Up w w3 from (by repeat' (first | (with_reducible exact up_refl _) | (with_reducible assumption) | (with_reducible refine up_alloc ?_ _) | (with_reducible refine up_drewN ?_ _) | (with_reducible refine up_drew ?_) | (with_reducible refine up_set ?_ (by first | (simp; done) | (simp; omega) | omega) _) | (refine up_trans ?_ (by with_reducible assumption)))))
        clear hb1 hb2 hb3
        go_loopw [8] (fun s8 wr => ∃ k : Nat, k ≤ m ∧ s8 = .int .i64 k ∧ Up w3 wr ∧ Hid (okL (G.take k) = true)) (fun s8 _ => m - (intOf s8).toNat)
        case atStart => exact ⟨0, Nat.zero_le _, rfl, up_refl _, hide rfl⟩
        case round =>
          obtain ⟨k, hk, rfl, hu, HK⟩ := hrel
          by_cases hlt : k < m
          · have h1' : (k : Int) < (m : Int) := by omega
            have lk : k < G.length := by rw [unhide HM]; exact hlt
            have hts := okL_take_succ lk
            have hat := fun e => okL_at (ps := G) lk e
            have ek : G[k] = Gx.g G k := (Gx.g_eq lk).symm
            rw [ek] at hts hat
            obtain ⟨x0, x1⟩ := pts_g (unhide HC) lk
            obtain ⟨X, hX⟩ : ∃ X, Gx.g G k = X := ⟨_, rfl⟩
            rw [hX] at x0 x1 hts hat
            obtain ⟨x, y⟩ := X
            simp only at x0 x1 hts hat
            have c0 := up_cell hu x0
            have c1 := up_cell hu x1
            rw [Nat.zero_add] at c0 c1
            have PI : ∀ W : World, Calls Try.prog 41 #[pt x y] W fun e w' => e = .returned (.bool (okp x y)) ∧ Up W w' := fun W => r_Is x y W
            cases o : okp x y
            · rw [o] at PI
              have HPI := hide PI
              have HF := hide (hat o)
              clear PI x0 x1 hX hts hat ek lk o
              go_wp2_with (go_at_call 41; (with_reducible refine (unhide HPI _).mono ?_); rintro e w5 ⟨rfl, hb5⟩)
              exact bodyPost_ret (v := .tuple #[.slice none 0 0, .int .i64 4]) (by simp [results, Try.results19, go_sem]) rfl ⟨unhide HQE 4 _ (by rw [unhide HE, unhide HF]; rfl) (by decide), up_trans (unhide HU) (by repeat' (first | (with_reducible exact up_refl _) | (with_reducible assumption) | (with_reducible refine up_alloc ?_ _) | (with_reducible refine up_drewN ?_ _) | (with_reducible refine up_drew ?_) | (with_reducible refine up_set ?_ (by first | (simp; done) | (simp; omega) | omega) _) | (refine up_trans ?_ (by with_reducible assumption))))⟩
            · rw [o] at PI
              have HPI := hide PI
              have HK2 : Hid (okL (G.take (k + 1)) = true) := hide (by rw [hts, unhide HK, o]; rfl)
              clear PI x0 x1 hX hts hat ek lk o
              go_wp2_with (go_at_call 41; (with_reducible refine (unhide HPI _).mono ?_); rintro e w5 ⟨rfl, hb5⟩)
              first
                | exact ⟨⟨k + 1, by omega, by go_num, (by repeat' (first | (with_reducible exact up_refl _) | (with_reducible assumption) | (with_reducible refine up_alloc ?_ _) | (with_reducible refine up_drewN ?_ _) | (with_reducible refine up_drew ?_) | (with_reducible refine up_set ?_ (by first | (simp; done) | (simp; omega) | omega) _) | (refine up_trans ?_ (by with_reducible assumption)))), HK2⟩, by simp [intOf]; omega⟩
                | (go_roundw; (case rel => exact ⟨k + 1, by omega, by go_num, (by repeat' (first | (with_reducible exact up_refl _) | (with_reducible assumption) | (with_reducible refine up_alloc ?_ _) | (with_reducible refine up_drewN ?_ _) | (with_reducible refine up_drew ?_) | (with_reducible refine up_set ?_ (by first | (simp; done) | (simp; omega) | omega) _) | (refine up_trans ?_ (by with_reducible assumption)))), HK2⟩); (case measure => simp [intOf]; omega))
          · obtain rfl : k = m := by omega
            have h1' : ¬ (k : Int) < (k : Int) := by omega
            have HF : Hid (okL G = true) := hide (by have := unhide HK; rwa [List.take_of_length_le (by rw [unhide HM]; exact Nat.le_refl _)] at this)
            go_wp2_with fail
            exact bodyPost_ret (v := .tuple #[.slice (some ⟨g, 0, none⟩) k cp, .int .i64 0]) (by simp [results, Try.results19, go_sem]) rfl ⟨unhide HQO _ _ (by rw [unhide HE, if_pos (unhide HF)]) (own_up (unhide HO) hu), up_trans (unhide HU) hu⟩
      · have z6 : decide ((256 : Int) < (m : Int)) = true := decide_eq_true (by omega)
        have z6' : (256 : Int) < (m : Int) := by omega
        rw [if_neg h6] at hE
        have HE := hide hE
        clear hE
        go_enter Try.func19, Try.ntmps19
        go_wp2_with (first
          | (go_at_call 40; (with_reducible refine (unhide HPH _ (by repeat' (first | (with_reducible exact up_refl _) | (with_reducible assumption) | (with_reducible refine up_alloc ?_ _) | (with_reducible refine up_drewN ?_ _) | (with_reducible refine up_drew ?_) | (with_reducible refine up_set ?_ (by first | (simp; done) | (simp; omega) | omega) _) | (refine up_trans ?_ (by with_reducible assumption))))).mono ?_); rintro e w1 ⟨rfl, hb1⟩)
          | (go_at_call 48; (with_reducible refine (unhide HPT _).mono ?_); rintro e w2 ⟨rfl, hb2⟩)
          | (go_at_call 49; (with_reducible refine (unhide HPG _ (by repeat' (first | (with_reducible exact up_refl _) | (with_reducible assumption) | (with_reducible refine up_alloc ?_ _) | (with_reducible refine up_drewN ?_ _) | (with_reducible refine up_drew ?_) | (with_reducible refine up_set ?_ (by first | (simp; done) | (simp; omega) | omega) _) | (refine up_trans ?_ (by with_reducible assumption))))).mono ?_); rintro e w3 ⟨v, rfl, hown, hb3⟩; obtain ⟨g, cp, rfl, g1, g2, g3⟩ := own_some hown g0; clear hown))
        exact bodyPost_ret (v := .tuple #[.slice none 0 0, .int .i64 6]) (by simp [results, Try.results19, go_sem]) rfl ⟨unhide HQE 6 _ (unhide HE) (by decide), (by repeat' (first | (with_reducible exact up_refl _) | (with_reducible assumption) | (with_reducible refine up_alloc ?_ _) | (with_reducible refine up_drewN ?_ _) | (with_reducible refine up_drew ?_) | (with_reducible refine up_set ?_ (by first | (simp; done) | (simp; omega) | omega) _) | (refine up_trans ?_ (by with_reducible assumption))))⟩
  · have hE : grE ps t = hulR ps ps := by unfold grE; rw [if_neg c]
    obtain ⟨z, hZ⟩ : ∃ z, hulR ps ps = z := ⟨_, rfl⟩
    rw [hZ] at PH c hE
    have HE := hide hE
    have HNZ := hide c
    have z1 : (z == 0) = false := beq_false_of_ne c
    obtain ⟨n, hN⟩ : ∃ n, ps.length = n := ⟨_, rfl⟩
    rw [hN] at PH ⊢
    have HPH := hide PH
    clear PH PT hN hZ h hn hE QE QO
    go_enter Try.func19, Try.ntmps19
    go_wp2_with (go_at_call 40; (with_reducible refine (unhide HPH _ (by repeat' (first | (with_reducible exact up_refl _) | (with_reducible assumption) | (with_reducible refine up_alloc ?_ _) | (with_reducible refine up_drewN ?_ _) | (with_reducible refine up_drew ?_) | (with_reducible refine up_set ?_ (by first | (simp; done) | (simp; omega) | omega) _) | (refine up_trans ?_ (by with_reducible assumption))))).mono ?_); rintro e w1 ⟨rfl, hb1⟩)
    exact bodyPost_ret (v := .tuple #[.slice none 0 0, .int .i64 z]) (by simp [results, Try.results19, go_sem]) rfl ⟨unhide HQE z _ (unhide HE) (unhide HNZ), (by repeat' (first | (with_reducible exact up_refl _) | (with_reducible assumption) | (with_reducible refine up_alloc ?_ _) | (with_reducible refine up_drewN ?_ _) | (with_reducible refine up_drew ?_) | (with_reducible refine up_set ?_ (by first | (simp; done) | (simp; omega) | omega) _) | (refine up_trans ?_ (by with_reducible assumption))))⟩
end Go.Proofs.Ytihckoenfklhpaa
namespace Go.Proofs.Ytihckoenfklhpaa
open Go.RowKit Go.Proofs.Gn
set_option maxRecDepth 100000 in
set_option maxHeartbeats 4000000 in
theorem p_GrowA (A : Option Addr) (ps : Pl) (cap : Nat) (t : Int) (w : World) (h : Pts w A ps) (hcap : ps.length ≤ cap) (hcap2 : cap ≤ 9223372036854775807) :
    Calls Try.prog 18 #[.slice A ps.length cap, .int .i64 t] w fun e w' => GrowR w.heap.size ps t e w' ∧ Up w w' := by
  have PC : ∀ (B : Nat) (W : World), Up w W → W.cell? ⟨B, 0, none⟩ = some (.slice A ps.length cap) → Calls Try.prog 37 #[.slice (some ⟨B, 0, none⟩) 1 1] W fun e w' => e = .returned (.int .i64 (hulR ps ps)) ∧ Up W w' := fun B W hu hw => by
    rw [← (isRB_hul (ps := ps)).2]
    exact p_check1 _ ps cap B W (pts_up h hu) hcap hcap2 hw
  have QE : ∀ (z : Int) (W : World), grE ps t = z → z ≠ 0 → GrowR w.heap.size ps t (.returned (.tuple #[.slice none 0 0, .int .i64 z])) W := fun z W e h => by subst e; exact .inl ⟨h, rfl⟩
  have QO : ∀ (v : Value) (W : World), grE ps t = 0 → W.ownsRow w.heap.size 24 2 v (grL ps t).length (cellsPl (grL ps t)) → GrowR w.heap.size ps t (.returned (.tuple #[v, .int .i64 0])) W := fun v W e h => .inr ⟨e, v, rfl, h⟩
  obtain ⟨Qp, hQp⟩ : ∃ Qp : Ending → World → Prop, GrowR w.heap.size ps t = Qp := ⟨_, rfl⟩
  rw [hQp] at QE QO ⊢
  clear hQp
  have HQE := hide QE
  by_cases c : hulR ps ps = 0
  · have hv := (hulR_zero c).1
    obtain ⟨b, off, rfl, hc⟩ := h.resolve_left (by intro e; have := hv.pos; rw [e] at this; simp at this)
    have hE : grE ps t = if inT t then if (grL ps t).length ≤ 256 then if okL (grL ps t) then 0 else 4 else 6 else 3 := by unfold grE; rw [if_pos c]
    rw [c] at PC
    by_cases ht : 0 ≤ t ∧ t ≤ 33554432
    · obtain ⟨t0, t1⟩ := ht
      have hi : inT t = true := by unfold inT; rw [decide_eq_true t0, decide_eq_true t1]; rfl
      rw [hi, if_pos rfl] at hE
      obtain ⟨K, hK⟩ := Gx.walk_ex hv.poly (Gx.sqL_poly t0)
      obtain ⟨l1, l2⟩ := Gx.sqL_len t
      have hG : (Gx.spL ps (Gx.sqL t) (max 1 K)).length = max 1 K := Gx.spL_len _ _ _
      have hgl : Gx.spL ps (Gx.sqL t) (max 1 K) = grL ps t := (Gx.grown_eq hv.poly.ne hK.path).symm
      have hlen : max 1 K ≤ 512 := by
        have := hK.most
        have := hv.len
        have e1 : Gx.ns ps ≤ ps.length := by unfold Gx.ns; split <;> omega
        have e2 : Gx.ns (Gx.sqL t) ≤ (Gx.sqL t).length := by unfold Gx.ns; split <;> omega
        omega
      have PS : ∀ W : World, Calls Try.prog 46 #[.int .i64 t] W fun e w' => ∃ g cap, e = .returned (.slice (some ⟨g, 0, none⟩) (Gx.sqL t).length cap) ∧ At w' g 0 cap (Gx.sqL t) ∧ Up W w' := fun W => p_square t W t0 t1
      have PW : ∀ (g cp : Nat) (W : World), Up w W → At W g 0 cp (Gx.sqL t) → Calls Try.prog 45 #[.slice (some ⟨b, off, none⟩) ps.length cap, .slice (some ⟨g, 0, none⟩) (Gx.sqL t).length cp] W fun e w' => ∃ v, e = .returned v ∧ w'.ownsRow w.heap.size 24 2 v (max 1 K) (cellsPl (grL ps t)) ∧ Up W w' := fun g cp W hu hA => by
        have q := p_sums b off g 0 ps (Gx.sqL t) cap cp W (fun k hk => ⟨up_cell hu (hc k hk).1, up_cell hu (hc k hk).2⟩) hA.pts hv.pos l1 (by have := hv.len; omega) (by omega) hv.bd (sqL_bdL t0 t1) K hK
        rw [hgl] at q
        exact q.mono fun e w' ⟨v, he, ho, hup⟩ => ⟨v, he, own_base ho hu.size, hup⟩
      rw [hgl] at hG
      obtain ⟨G, hGe⟩ : ∃ G, grL ps t = G := ⟨_, rfl⟩
      rw [hGe] at hG PW QO hE
      obtain ⟨n, hn⟩ : ∃ n, max 1 K = n := ⟨_, rfl⟩
      rw [hn] at hG hlen PW
      have n0 : 0 < n := by omega
      have PP : ∀ (g cp : Nat) (W : World), Pts W (some ⟨g, 0, none⟩) G → Calls Try.prog 47 #[.slice (some ⟨g, 0, none⟩) n cp] W fun e w' => e = .returned (.int .i64 (chkL G)) ∧ Up W w' := fun g cp W hA => by
        have q := p_checkPoints (some ⟨g, 0, none⟩) G cp W hA (by omega)
        rw [hG] at q
        exact q
      rw [hG] at QO hE
      have HPC := hide PC
      have HPS := hide PS
      have HPW := hide PW
      have HQO := hide QO
      obtain ⟨na, hna⟩ : ∃ n, ps.length = n := ⟨_, rfl⟩
      obtain ⟨nb, hnb⟩ : ∃ n, (Gx.sqL t).length = n := ⟨_, rfl⟩
      rw [hna] at HPC HPW ⊢
      rw [hnb] at HPW HPS
      have z1 : decide (t < 0) = false := decide_eq_false (by omega)
      have z2 : decide (33554432 < t) = false := decide_eq_false (by omega)
      clear PC PS PW QE QO hc hv hi hK l1 l2 hG hgl hGe hn hna hnb c hcap hcap2 h
      by_cases h6 : n ≤ 256
      · have z3 : decide (256 < (n : Int)) = false := decide_eq_false (by omega)
        rw [if_pos h6] at hE
        cases ho : okL G
        · have HE : Hid (grE ps t = 4) := hide (by rw [hE, ho]; rfl)
          unfold chkL at PP
          rw [ho] at PP
          have HPP := hide PP
          clear PP ho hE
          go_enter Try.func18, Try.ntmps18
          go_wp2_with (first
            | (go_at_call 37; (with_reducible refine (unhide HPC _ _ (by repeat' (first | (with_reducible exact up_refl _) | (with_reducible assumption) | (with_reducible refine up_alloc ?_ _) | (with_reducible refine up_drewN ?_ _) | (with_reducible refine up_drew ?_) | (with_reducible refine up_set ?_ (by first | (simp; done) | (simp; omega) | omega) _) | (refine up_trans ?_ (by with_reducible assumption)))) ?_).mono ?_); (· go_cell); rintro e w1 ⟨rfl, hb1⟩)
            | (go_at_call 46; (with_reducible refine (unhide HPS _).mono ?_); rintro e w2 ⟨gs, cs, rfl, hS, hb2⟩; have HS := hide hS; clear hS)
            | (go_at_call 45; (with_reducible refine (unhide HPW _ _ _ (by repeat' (first | (with_reducible exact up_refl _) | (with_reducible assumption) | (with_reducible refine up_alloc ?_ _) | (with_reducible refine up_drewN ?_ _) | (with_reducible refine up_drew ?_) | (with_reducible refine up_set ?_ (by first | (simp; done) | (simp; omega) | omega) _) | (refine up_trans ?_ (by with_reducible assumption)))) (unhide HS)).mono ?_); rintro e w3 ⟨v, rfl, hown, hb3⟩; obtain ⟨g, cp, rfl, q1, q2, q3⟩ := own_some hown n0; have HA := hide (own_p hown); clear hown)
            | (go_at_call 47; (with_reducible refine (unhide HPP _ _ _ (unhide HA)).mono ?_); rintro e w4 ⟨rfl, hb4⟩))
          exact bodyPost_ret (v := .tuple #[.slice none 0 0, .int .i64 4]) (by simp [results, Try.results18, go_sem, *]) rfl ⟨unhide HQE 4 _ (unhide HE) (by decide), (by repeat' (first | (with_reducible exact up_refl _) | (with_reducible assumption) | (with_reducible refine up_alloc ?_ _) | (with_reducible refine up_drewN ?_ _) | (with_reducible refine up_drew ?_) | (with_reducible refine up_set ?_ (by first | (simp; done) | (simp; omega) | omega) _) | (refine up_trans ?_ (by with_reducible assumption))))⟩
        · have HE : Hid (grE ps t = 0) := hide (by rw [hE, ho]; rfl)
          unfold chkL at PP
          rw [ho] at PP
          have HPP := hide PP
          clear PP ho hE
          go_enter Try.func18, Try.ntmps18
          go_wp2_with (first
            | (go_at_call 37; (with_reducible refine (unhide HPC _ _ (by repeat' (first | (with_reducible exact up_refl _) | (with_reducible assumption) | (with_reducible refine up_alloc ?_ _) | (with_reducible refine up_drewN ?_ _) | (with_reducible refine up_drew ?_) | (with_reducible refine up_set ?_ (by first | (simp; done) | (simp; omega) | omega) _) | (refine up_trans ?_ (by with_reducible assumption)))) ?_).mono ?_); (· go_cell); rintro e w1 ⟨rfl, hb1⟩)
            | (go_at_call 46; (with_reducible refine (unhide HPS _).mono ?_); rintro e w2 ⟨gs, cs, rfl, hS, hb2⟩; have HS := hide hS; clear hS)
            | (go_at_call 45; (with_reducible refine (unhide HPW _ _ _ (by repeat' (first | (with_reducible exact up_refl _) | (with_reducible assumption) | (with_reducible refine up_alloc ?_ _) | (with_reducible refine up_drewN ?_ _) | (with_reducible refine up_drew ?_) | (with_reducible refine up_set ?_ (by first | (simp; done) | (simp; omega) | omega) _) | (refine up_trans ?_ (by with_reducible assumption)))) (unhide HS)).mono ?_); rintro e w3 ⟨v, rfl, hown, hb3⟩; obtain ⟨g, cp, rfl, q1, q2, q3⟩ := own_some hown n0; have HA := hide (own_p hown); have HO := hide hown; clear hown)
            | (go_at_call 47; (with_reducible refine (unhide HPP _ _ _ (unhide HA)).mono ?_); rintro e w4 ⟨rfl, hb4⟩))
          exact bodyPost_ret (v := .tuple #[.slice (some ⟨g, 0, none⟩) n cp, .int .i64 0]) (by simp [results, Try.results18, go_sem, *]) rfl ⟨unhide HQO _ _ (unhide HE) (own_up (unhide HO) hb4), (by repeat' (first | (with_reducible exact up_refl _) | (with_reducible assumption) | (with_reducible refine up_alloc ?_ _) | (with_reducible refine up_drewN ?_ _) | (with_reducible refine up_drew ?_) | (with_reducible refine up_set ?_ (by first | (simp; done) | (simp; omega) | omega) _) | (refine up_trans ?_ (by with_reducible assumption))))⟩
      · have z3 : decide (256 < (n : Int)) = true := decide_eq_true (by omega)
        have HE : Hid (grE ps t = 6) := hide (by rw [hE, if_neg h6])
        clear PP hE
        go_enter Try.func18, Try.ntmps18
        go_wp2_with (first
          | (go_at_call 37; (with_reducible refine (unhide HPC _ _ (by repeat' (first | (with_reducible exact up_refl _) | (with_reducible assumption) | (with_reducible refine up_alloc ?_ _) | (with_reducible refine up_drewN ?_ _) | (with_reducible refine up_drew ?_) | (with_reducible refine up_set ?_ (by first | (simp; done) | (simp; omega) | omega) _) | (refine up_trans ?_ (by with_reducible assumption)))) ?_).mono ?_); (· go_cell); rintro e w1 ⟨rfl, hb1⟩)
          | (go_at_call 46; (with_reducible refine (unhide HPS _).mono ?_); rintro e w2 ⟨gs, cs, rfl, hS, hb2⟩; have HS := hide hS; clear hS)
          | (go_at_call 45; (with_reducible refine (unhide HPW _ _ _ (by repeat' (first | (with_reducible exact up_refl _) | (with_reducible assumption) | (with_reducible refine up_alloc ?_ _) | (with_reducible refine up_drewN ?_ _) | (with_reducible refine up_drew ?_) | (with_reducible refine up_set ?_ (by first | (simp; done) | (simp; omega) | omega) _) | (refine up_trans ?_ (by with_reducible assumption)))) (unhide HS)).mono ?_); rintro e w3 ⟨v, rfl, hown, hb3⟩; obtain ⟨g, cp, rfl, q1, q2, q3⟩ := own_some hown n0; clear hown))
        exact bodyPost_ret (v := .tuple #[.slice none 0 0, .int .i64 6]) (by simp [results, Try.results18, go_sem, *]) rfl ⟨unhide HQE 6 _ (unhide HE) (by decide), (by repeat' (first | (with_reducible exact up_refl _) | (with_reducible assumption) | (with_reducible refine up_alloc ?_ _) | (with_reducible refine up_drewN ?_ _) | (with_reducible refine up_drew ?_) | (with_reducible refine up_set ?_ (by first | (simp; done) | (simp; omega) | omega) _) | (refine up_trans ?_ (by with_reducible assumption))))⟩
    · have hi : inT t = false := by
        unfold inT
        by_cases t0 : 0 ≤ t
        · rw [decide_eq_true t0, decide_eq_false (show ¬ t ≤ 33554432 from fun k => ht ⟨t0, k⟩)]; rfl
        · rw [decide_eq_false t0]; rfl
      have HE : Hid (grE ps t = 3) := hide (by rw [hE, hi]; rfl)
      obtain ⟨n, hN⟩ : ∃ n, ps.length = n := ⟨_, rfl⟩
      rw [hN] at PC ⊢
      have HPC := hide PC
      clear PC QE QO hN hE hi hc hv hcap hcap2 c h
      by_cases t0 : t < 0
      · have z1 : decide (t < 0) = true := decide_eq_true t0
        go_enter Try.func18, Try.ntmps18
        go_wp2_with (go_at_call 37; (with_reducible refine (unhide HPC _ _ (by repeat' (first | (with_reducible exact up_refl _) | (with_reducible assumption) | (with_reducible refine up_alloc ?_ _) | (with_reducible refine up_drewN ?_ _) | (with_reducible refine up_drew ?_) | (with_reducible refine up_set ?_ (by first | (simp; done) | (simp; omega) | omega) _) | (refine up_trans ?_ (by with_reducible assumption)))) ?_).mono ?_); (· go_cell); rintro e w1 ⟨rfl, hb1⟩)
        exact bodyPost_ret (v := .tuple #[.slice none 0 0, .int .i64 3]) (by simp [results, Try.results18, go_sem, *]) rfl ⟨unhide HQE 3 _ (unhide HE) (by decide), (by repeat' (first | (with_reducible exact up_refl _) | (with_reducible assumption) | (with_reducible refine up_alloc ?_ _) | (with_reducible refine up_drewN ?_ _) | (with_reducible refine up_drew ?_) | (with_reducible refine up_set ?_ (by first | (simp; done) | (simp; omega) | omega) _) | (refine up_trans ?_ (by with_reducible assumption))))⟩
      · have z1 : decide (t < 0) = false := decide_eq_false t0
        have z2 : decide (33554432 < t) = true := decide_eq_true (by omega)
        go_enter Try.func18, Try.ntmps18
        go_wp2_with (go_at_call 37; (with_reducible refine (unhide HPC _ _ (by repeat' (first | (with_reducible exact up_refl _) | (with_reducible assumption) | (with_reducible refine up_alloc ?_ _) | (with_reducible refine up_drewN ?_ _) | (with_reducible refine up_drew ?_) | (with_reducible refine up_set ?_ (by first | (simp; done) | (simp; omega) | omega) _) | (refine up_trans ?_ (by with_reducible assumption)))) ?_).mono ?_); (· go_cell); rintro e w1 ⟨rfl, hb1⟩)
        exact bodyPost_ret (v := .tuple #[.slice none 0 0, .int .i64 3]) (by simp [results, Try.results18, go_sem, *]) rfl ⟨unhide HQE 3 _ (unhide HE) (by decide), (by repeat' (first | (with_reducible exact up_refl _) | (with_reducible assumption) | (with_reducible refine up_alloc ?_ _) | (with_reducible refine up_drewN ?_ _) | (with_reducible refine up_drew ?_) | (with_reducible refine up_set ?_ (by first | (simp; done) | (simp; omega) | omega) _) | (refine up_trans ?_ (by with_reducible assumption))))⟩
  · have hE : grE ps t = hulR ps ps := by unfold grE; rw [if_neg c]
    obtain ⟨z, hZ⟩ : ∃ z, hulR ps ps = z := ⟨_, rfl⟩
    rw [hZ] at PC c hE
    have HE := hide hE
    have HNZ := hide c
    have z1 : (z == 0) = false := beq_false_of_ne c
    obtain ⟨n, hN⟩ : ∃ n, ps.length = n := ⟨_, rfl⟩
    rw [hN] at PC ⊢
    have HPC := hide PC
    clear PC QE QO hN hZ h hcap hcap2 hE
    go_enter Try.func18, Try.ntmps18
    go_wp2_with (go_at_call 37; (with_reducible refine (unhide HPC _ _ (by repeat' (first | (with_reducible exact up_refl _) | (with_reducible assumption) | (with_reducible refine up_alloc ?_ _) | (with_reducible refine up_drewN ?_ _) | (with_reducible refine up_drew ?_) | (with_reducible refine up_set ?_ (by first | (simp; done) | (simp; omega) | omega) _) | (refine up_trans ?_ (by with_reducible assumption)))) ?_).mono ?_); (· go_cell); rintro e w1 ⟨rfl, hb1⟩)
    exact bodyPost_ret (v := .tuple #[.slice none 0 0, .int .i64 z]) (by simp [results, Try.results18, go_sem, *]) rfl ⟨unhide HQE z _ (unhide HE) (unhide HNZ), (by repeat' (first | (with_reducible exact up_refl _) | (with_reducible assumption) | (with_reducible refine up_alloc ?_ _) | (with_reducible refine up_drewN ?_ _) | (with_reducible refine up_drew ?_) | (with_reducible refine up_set ?_ (by first | (simp; done) | (simp; omega) | omega) _) | (refine up_trans ?_ (by with_reducible assumption))))⟩
end Go.Proofs.Ytihckoenfklhpaa
