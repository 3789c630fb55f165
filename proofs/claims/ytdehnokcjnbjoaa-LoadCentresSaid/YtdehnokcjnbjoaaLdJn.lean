/- load.Joined of any two loads. -/
import Derived.Test.YtdehnokcjnbjoaaConcY
import Derived.Test.YtdehnokcjnbjoaaPkOpenLoad
import Derived.Test.YtdehnokcjnbjoaaPkLdV
import Derived.Deep.RegionHeld3
namespace Go.Proofs.Ytdehnokcjnbjoaa
open Go.RowKit Go.Proofs.Gn
attribute [local go_sem] Oper.semAt_some
set_option linter.unusedVariables false
abbrev ld2A (s1 s2 : ByteArray) (A B G1 G2 : Option Addr) (n m c d M1 M2 k1 k2 : Nat) (f1 f2 : Int) : Value := .agg #[.string s1, .slice A n c, .slice G1 M1 k1, .int .i64 f1, .string s2, .slice B m d, .slice G2 M2 k2, .int .i64 f2]
theorem ix2A (s1 s2 : ByteArray) (A B G1 G2 : Option Addr) (n m c d M1 M2 k1 k2 : Nat) (f1 f2 : Int) (w : World) : (Instr.index 84 (ld2A s1 s2 A B G1 G2 n m c d M1 M2 k1 k2 f1 f2) (.int .i64 0)).run Try.prog w = .ok (loV s1 A n c G1 M1 k1 f1) w ∧ (Instr.index 84 (ld2A s1 s2 A B G1 G2 n m c d M1 M2 k1 k2 f1 f2) (.int .i64 1)).run Try.prog w = .ok (loV s2 B m d G2 M2 k2 f2) w := ⟨by kernel_rfl, by kernel_rfl⟩
theorem bx_threeA (w : World) (x y z : List Value) (T : TypeId) : Bx (((w.alloc (.cells x.toArray T)).alloc (.cells y.toArray T)).alloc (.cells z.toArray T)) w.heap.size x ∧ Bx (((w.alloc (.cells x.toArray T)).alloc (.cells y.toArray T)).alloc (.cells z.toArray T)) (w.heap.size + 1) y ∧ Bx (((w.alloc (.cells x.toArray T)).alloc (.cells y.toArray T)).alloc (.cells z.toArray T)) (w.heap.size + 1 + 1) z := by
  refine ⟨bx_alloc (bx_alloc (bx_new w _ _) _) _, ?_, ?_⟩
  · have q := bx_new (w.alloc (.cells x.toArray T)) y T
    rw [World.size_alloc] at q
    exact bx_alloc q _
  · have q := bx_new ((w.alloc (.cells x.toArray T)).alloc (.cells y.toArray T)) z T
    rw [World.size_alloc, World.size_alloc] at q
    exact q
theorem bx_new1A (W : World) (o : Obj) (vs : List Value) (T : TypeId) : Bx ((W.alloc o).alloc (.cells vs.toArray T)) (W.heap.size + 1) vs := by
  have q := bx_new (W.alloc o) vs T
  rw [World.size_alloc] at q
  exact q
theorem bx_newdA (W : World) (vs : List Value) (T : TypeId) : Bx (W.drew.alloc (.cells vs.toArray T)) W.heap.size vs := bx_new W.drew vs T
/-- What stays while a joined load is made: both loads' boxes, the result's box. -/
def JBA (s1 s2 : ByteArray) (P1 P2 G1 G2 : Option Addr) (L1 L2 d1 d2 M1 M2 k1 k2 : Nat) (f1 f2 : Int) (w wx : World) : Prop := Bx wx w.heap.size [.string s1, .slice P1 L1 d1, .slice G1 M1 k1, .int .i64 f1] ∧ Bx wx (w.heap.size + 1) [.string s2, .slice P2 L2 d2, .slice G2 M2 k2, .int .i64 f2] ∧ (∃ r0 r1 r2 r3, Bx wx (w.heap.size + 1 + 1) [r0, r1, r2, r3]) ∧ Up w wx
theorem JBA.ups {s1 s2 : ByteArray} {P1 P2 G1 G2 : Option Addr} {L1 L2 d1 d2 M1 M2 k1 k2 : Nat} {f1 f2 : Int} {w wx wy : World} (h : JBA s1 s2 P1 P2 G1 G2 L1 L2 d1 d2 M1 M2 k1 k2 f1 f2 w wx) (hu : Up wx wy) : JBA s1 s2 P1 P2 G1 G2 L1 L2 d1 d2 M1 M2 k1 k2 f1 f2 w wy := by
  obtain ⟨a, b, ⟨r0, r1, r2, r3, c⟩, d⟩ := h
  exact ⟨bx_up a hu, bx_up b hu, ⟨r0, r1, r2, r3, bx_up c hu⟩, up_trans d hu⟩
theorem JBA.set {s1 s2 : ByteArray} {P1 P2 G1 G2 : Option Addr} {L1 L2 d1 d2 M1 M2 k1 k2 : Nat} {f1 f2 : Int} {w wx : World} (h : JBA s1 s2 P1 P2 G1 G2 L1 L2 d1 d2 M1 M2 k1 k2 f1 f2 w wx) (v0 v1 v2 v3 : Value) : JBA s1 s2 P1 P2 G1 G2 L1 L2 d1 d2 M1 M2 k1 k2 f1 f2 w ((((wx.setCell ⟨w.heap.size + 1 + 1, 0, none⟩ v0).setCell ⟨w.heap.size + 1 + 1, 1, none⟩ v1).setCell ⟨w.heap.size + 1 + 1, 2, none⟩ v2).setCell ⟨w.heap.size + 1 + 1, 3, none⟩ v3) := by
  obtain ⟨a, b, ⟨r0, r1, r2, r3, c⟩, d⟩ := h
  exact ⟨bx_far (bx_far (bx_far (bx_far a (by simp only; omega) _) (by simp only; omega) _) (by simp only; omega) _) (by simp only; omega) _, bx_far (bx_far (bx_far (bx_far b (by simp only; omega) _) (by simp only; omega) _) (by simp only; omega) _) (by simp only; omega) _, ⟨v0, v1, v2, v3, bx_set (bx_set (bx_set (bx_set c 0 v0) 1 v1) 2 v2) 3 v3⟩, up_set (up_set (up_set (up_set d (by simp only; omega) _) (by simp only; omega) _) (by simp only; omega) _) (by simp only; omega) _⟩
theorem JBA.cells {s1 s2 : ByteArray} {P1 P2 G1 G2 : Option Addr} {L1 L2 d1 d2 M1 M2 k1 k2 : Nat} {f1 f2 : Int} {w wx : World} (h : JBA s1 s2 P1 P2 G1 G2 L1 L2 d1 d2 M1 M2 k1 k2 f1 f2 w wx) : wx.cell? ⟨w.heap.size, 0, none⟩ = some (.string s1) ∧ wx.cell? ⟨w.heap.size, 1, none⟩ = some (.slice P1 L1 d1) ∧ wx.cell? ⟨w.heap.size, 2, none⟩ = some (.slice G1 M1 k1) ∧ wx.cell? ⟨w.heap.size, 3, none⟩ = some (.int .i64 f1) ∧ wx.cell? ⟨w.heap.size + 1, 1, none⟩ = some (.slice P2 L2 d2) ∧ wx.cell? ⟨w.heap.size + 1, 2, none⟩ = some (.slice G2 M2 k2) ∧ wx.cell? ⟨w.heap.size + 1, 3, none⟩ = some (.int .i64 f2) ∧ JBA s1 s2 P1 P2 G1 G2 L1 L2 d1 d2 M1 M2 k1 k2 f1 f2 w wx :=
  ⟨(h.1 0 _ rfl).1, (h.1 1 _ rfl).1, (h.1 2 _ rfl).1, (h.1 3 _ rfl).1, (h.2.1 1 _ rfl).1, (h.2.1 2 _ rfl).1, (h.2.1 3 _ rfl).1, h⟩
theorem pcs_farA {W : World} {A : Option Addr} {ps : List Pce} (h : Pcs W A ps) {p : Addr} (hp : ∀ b off, A = some ⟨b, off, none⟩ → b ≠ p.block) (u : Value) : Pcs (W.setCell p u) A ps := by
  rcases h with h | ⟨b, off, e, hc⟩
  · exact .inl h
  · refine .inr ⟨b, off, e, fun k hk => ?_⟩
    have hb := hp b off e
    have far : ∀ {o : Nat} {v : Value}, W.cell? ⟨b, o, none⟩ = some v → (W.setCell p u).cell? ⟨b, o, none⟩ = some v := fun {o v} q => by
      have e2 : (W.setCell p u).heap[b]? = W.heap[b]? := Below.heap_setCell W p u b hb
      rw [← q]
      unfold World.cell?
      simp only [e2]
    obtain ⟨a0, a1, a2, a3, a4, a5, a6⟩ := hc k hk
    exact ⟨far a0, far a1, far a2, far a3, far a4, far a5, far a6⟩
theorem eyes_farA {W : World} {A : Option Addr} {ys : List Eye} (h : Eyes W A ys) {p : Addr} (hp : ∀ b off, A = some ⟨b, off, none⟩ → b ≠ p.block) (u : Value) : Eyes (W.setCell p u) A ys := by
  rcases h with h | ⟨b, off, e, hc⟩
  · exact .inl h
  · refine .inr ⟨b, off, e, fun k hk => ?_⟩
    have hb := hp b off e
    have far : ∀ {o : Nat} {v : Value}, W.cell? ⟨b, o, none⟩ = some v → (W.setCell p u).cell? ⟨b, o, none⟩ = some v := fun {o v} q => by
      have e2 : (W.setCell p u).heap[b]? = W.heap[b]? := Below.heap_setCell W p u b hb
      rw [← q]
      unfold World.cell?
      simp only [e2]
    obtain ⟨a0, a1, a2, a3⟩ := hc k hk
    exact ⟨far a0, far a1, far a2, far a3⟩
theorem own_eys {W : World} {base e n : Nat} {v : Value} {ys : List Eye} (h : W.ownsRow base e 4 v n (cellsEy ys)) : ∃ A cap, v = .slice A ys.length cap ∧ Eyes W A ys := by
  have hl : (cellsEy ys).length = n * 4 := h.1
  rw [cellsEy_len] at hl
  obtain rfl : n = ys.length := by omega
  rcases h.2 with ⟨h1, h2⟩ | ⟨g, cap, cur, h1, _⟩
  · rw [h1]
    exact ⟨none, 0, by rw [h2], .inl (List.eq_nil_of_length_eq_zero h2)⟩
  · subst h1
    exact ⟨_, cap, rfl, eyes_bx (bx_own4 h)⟩
/-- What result makes of a load whose error is E. -/
def ResR (E : Int) (s : ByteArray) (P : Option Addr) (n c : Nat) (G : Option Addr) (m d : Nat) (f : Int) (t : ByteArray) (P' : Option Addr) (n' c' : Nat) (G' : Option Addr) (m' d' : Nat) (f' q : Int) : Prop :=
  (E = 0 ∧ q = 0 ∧ t = s ∧ P' = P ∧ n' = n ∧ c' = c ∧ G' = G ∧ m' = m ∧ d' = d ∧ f' = f) ∨ (E ≠ 0 ∧ q = 4 ∧ t = { data := #[] } ∧ P' = none ∧ n' = 0 ∧ c' = 0 ∧ G' = none ∧ m' = 0 ∧ d' = 0 ∧ f' = 0)
theorem p_resultA (s : ByteArray) (P : Option Addr) (ps : List Pce) (cp : Nat) (B : Option Addr) (ys : List Eye) (cb : Nat) (f : Int) (w : World) (h : Pcs w P ps) (hB : Eyes w B ys) (hn : ps.length ≤ 9223372036854775807) (hm : ys.length ≤ 9223372036854775807) :
    Calls Try.prog 36 #[loV s P ps.length cp B ys.length cb f] w fun e w' => (∃ t P' n' c' G' m' d' f' q, e = .returned (.tuple #[loV t P' n' c' G' m' d' f', .int .i64 q]) ∧ ResR (loE s ps ys f) s P ps.length cp B ys.length cb f t P' n' c' G' m' d' f' q) ∧ Up w w' := by
  by_cases hE : loE s ps ys f = 0
  · exact (p_resultL s P ps cp B ys cb f w h hB hn hm hE).mono fun e w' ⟨he, hu⟩ => ⟨⟨_, _, _, _, _, _, _, _, _, he, .inl ⟨hE, rfl, rfl, rfl, rfl, rfl, rfl, rfl, rfl, rfl⟩⟩, hu⟩
  · exact (p_resultNo s P ps cp B ys cb f w h hB hn hm _ rfl hE).mono fun e w' ⟨he, hu⟩ => ⟨⟨_, _, _, _, _, _, _, _, _, he, .inr ⟨hE, rfl, rfl, rfl, rfl, rfl, rfl, rfl, rfl, rfl⟩⟩, hu⟩
/-- Which error joining has. -/
def jnE (s1 : ByteArray) (p1 : List Pce) (y1 : List Eye) (f1 : Int) (s2 : ByteArray) (p2 : List Pce) (y2 : List Eye) (f2 : Int) : Int :=
  if loE s1 p1 y1 f1 = 0 then (if loE s2 p2 y2 f2 = 0 then (if 32 < p1.length + p2.length ∨ 32 < y1.length + y2.length then 6 else if loE s1 (p1 ++ p2) (y1 ++ y2) (min f1 f2) = 0 then 0 else 4) else loE s2 p2 y2 f2) else loE s1 p1 y1 f1
/-- What joining gives. -/
def JnQ (s1 : ByteArray) (p1 : List Pce) (y1 : List Eye) (f1 : Int) (s2 : ByteArray) (p2 : List Pce) (y2 : List Eye) (f2 : Int) (w : World) (e : Ending) (w' : World) : Prop :=
  ((e = .returned (.tuple #[lo0L, .int .i64 (jnE s1 p1 y1 f1 s2 p2 y2 f2)]) ∧ jnE s1 p1 y1 f1 s2 p2 y2 f2 ≠ 0) ∨ (∃ P cp G d, e = .returned (.tuple #[loV s1 P (p1 ++ p2).length cp G (y1 ++ y2).length d (min f1 f2), .int .i64 0]) ∧ jnE s1 p1 y1 f1 s2 p2 y2 f2 = 0 ∧ Pcs w' P (p1 ++ p2) ∧ Eyes w' G (y1 ++ y2))) ∧ Up w w'
/-- How far the loop over both loads has come. -/
def JnI (E1 E2 : Int) (s : Value) : Prop := s = .int .i64 0 ∨ (s = .int .i64 1 ∧ E1 = 0) ∨ (s = .int .i64 2 ∧ E1 = 0 ∧ E2 = 0)
set_option maxRecDepth 100000 in
set_option maxHeartbeats 16000000 in
theorem p_JoinedA (s1 s2 : ByteArray) (P1 P2 G1 G2 : Option Addr) (p1 p2 : List Pce) (y1 y2 : List Eye) (d1 d2 k1 k2 : Nat) (f1 f2 : Int) (w : World) (h1 : Pcs w P1 p1) (h2 : Pcs w P2 p2) (v1 : Eyes w G1 y1) (v2 : Eyes w G2 y2) (b1 : p1.length ≤ 1000 ∧ p2.length ≤ 1000) (b2 : y1.length ≤ 1000 ∧ y2.length ≤ 1000) :
    Calls Try.prog 15 #[loV s1 P1 p1.length d1 G1 y1.length k1 f1, loV s2 P2 p2.length d2 G2 y2.length k2 f2] w fun e w' => JnQ s1 p1 y1 f1 s2 p2 y2 f2 w e w' := by
  have HC1 := hide (fun W (hW : Up w W) => p_CheckL s1 P1 p1 d1 G1 y1 k1 f1 W (pcs_up h1 hW) (eyes_up v1 hW) (by omega) (by omega))
  have HC2 := hide (fun W (hW : Up w W) => p_CheckL s2 P2 p2 d2 G2 y2 k2 f2 W (pcs_up h2 hW) (eyes_up v2 hW) (by omega) (by omega))
  have HCo := hide (fun (n0 : 0 < p1.length ∧ 0 < p2.length) (n1 : p1.length + p2.length ≤ 32) W (hW : JBA s1 s2 P1 P2 G1 G2 p1.length p2.length d1 d2 y1.length y2.length k1 k2 f1 f2 w W) g (hg : Bx W g [.slice P1 p1.length d1, .slice P2 p2.length d2]) => (p_ConcatPc g P1 P2 p1 p2 d1 d2 W hg (pcs_up h1 hW.2.2.2) (pcs_up h2 hW.2.2.2) (by omega) (by omega)).mono (fun e w' ⟨⟨v, he, ho⟩, hu⟩ => by
    rw [← List.length_append] at ho
    obtain ⟨A, c, rfl, hp⟩ := own_pcs ho
    have hfar : ∀ b off, A = some ⟨b, off, none⟩ → b ≠ w.heap.size + 1 + 1 := fun b off e => by
      have a1 := (ho.lt b (by rw [e]; rfl)).1
      obtain ⟨_, _, ⟨r0, r1, r2, r3, hc⟩, _⟩ := hW
      have a2 := bx_lt hc (by simp)
      omega
    exact (⟨⟨A, c, he, hp, hfar⟩, hu, hW.ups hu⟩ : (∃ A c, e = Ending.returned (.slice A (p1 ++ p2).length c) ∧ Pcs w' A (p1 ++ p2) ∧ (∀ b off, A = some ⟨b, off, none⟩ → b ≠ w.heap.size + 1 + 1)) ∧ Up W w' ∧ JBA s1 s2 P1 P2 G1 G2 p1.length p2.length d1 d2 y1.length y2.length k1 k2 f1 f2 w w')))
  have HCe := hide (fun (n1 : y1.length + y2.length ≤ 32) W (hW : JBA s1 s2 P1 P2 G1 G2 p1.length p2.length d1 d2 y1.length y2.length k1 k2 f1 f2 w W) g (hg : Bx W g [.slice G1 y1.length k1, .slice G2 y2.length k2]) => (p_ConcatYA g G1 G2 y1 y2 k1 k2 W hg (eyes_up v1 hW.2.2.2) (eyes_up v2 hW.2.2.2) (by omega) (by omega)).mono (fun e w' ⟨⟨v, he, ho⟩, hu⟩ => by
    obtain ⟨A, c, rfl, hp⟩ := own_eys ho
    have hfar : ∀ b off, A = some ⟨b, off, none⟩ → b ≠ w.heap.size + 1 + 1 := fun b off e => by
      have a1 := (ho.lt b (by rw [e]; rfl)).1
      obtain ⟨_, _, ⟨r0, r1, r2, r3, hc⟩, _⟩ := hW
      have a2 := bx_lt hc (by simp)
      omega
    exact (⟨⟨A, c, he, hp, hfar⟩, hu, hW.ups hu⟩ : (∃ A c, e = Ending.returned (.slice A (y1 ++ y2).length c) ∧ Eyes w' A (y1 ++ y2) ∧ (∀ b off, A = some ⟨b, off, none⟩ → b ≠ w.heap.size + 1 + 1)) ∧ Up W w' ∧ JBA s1 s2 P1 P2 G1 G2 p1.length p2.length d1 d2 y1.length y2.length k1 k2 f1 f2 w w')))
  have HR := hide (fun W (hW : JBA s1 s2 P1 P2 G1 G2 p1.length p2.length d1 d2 y1.length y2.length k1 k2 f1 f2 w W) P cp G kp (hP : Pcs W P (p1 ++ p2)) (hY : Eyes W G (y1 ++ y2)) => (p_resultA s1 P (p1 ++ p2) cp G (y1 ++ y2) kp (min f1 f2) W hP hY (by rw [List.length_append]; omega) (by rw [List.length_append]; omega)).mono (fun e w' ⟨he, hu⟩ => (⟨he, hu, hW.ups hu⟩ : _ ∧ Up W w' ∧ JBA s1 s2 P1 P2 G1 G2 p1.length p2.length d1 d2 y1.length y2.length k1 k2 f1 f2 w w')))
  have HN := hide (show loE s1 p1 y1 f1 = 0 → loE s2 p2 y2 f2 = 0 → 0 < p1.length ∧ 0 < p2.length from fun a b => ⟨by have := (loE_ok a).1; omega, by have := (loE_ok b).1; omega⟩)
  have HPa := hide (show loE s1 p1 y1 f1 ≠ 0 → ∀ W9, Up w W9 → JnQ s1 p1 y1 f1 s2 p2 y2 f2 w (.returned (.tuple #[lo0L, .int .i64 (loE s1 p1 y1 f1)])) W9 from fun n W9 hu => by
    have e : jnE s1 p1 y1 f1 s2 p2 y2 f2 = loE s1 p1 y1 f1 := by unfold jnE; rw [if_neg n]
    exact ⟨.inl ⟨by rw [e], by rw [e]; exact n⟩, hu⟩)
  have HPb := hide (show loE s1 p1 y1 f1 = 0 → loE s2 p2 y2 f2 ≠ 0 → ∀ W9, Up w W9 → JnQ s1 p1 y1 f1 s2 p2 y2 f2 w (.returned (.tuple #[lo0L, .int .i64 (loE s2 p2 y2 f2)])) W9 from fun m n W9 hu => by
    have e : jnE s1 p1 y1 f1 s2 p2 y2 f2 = loE s2 p2 y2 f2 := by unfold jnE; rw [if_pos m, if_neg n]
    exact ⟨.inl ⟨by rw [e], by rw [e]; exact n⟩, hu⟩)
  have HPc := hide (show loE s1 p1 y1 f1 = 0 → loE s2 p2 y2 f2 = 0 → (32 < p1.length + p2.length ∨ 32 < y1.length + y2.length) → ∀ W9, Up w W9 → JnQ s1 p1 y1 f1 s2 p2 y2 f2 w (.returned (.tuple #[lo0L, .int .i64 6])) W9 from fun m n o W9 hu => by
    have e : jnE s1 p1 y1 f1 s2 p2 y2 f2 = 6 := by unfold jnE; rw [if_pos m, if_pos n, if_pos o]
    exact ⟨.inl ⟨by rw [e], by rw [e]; decide⟩, hu⟩)
  have HPd := hide (show loE s1 p1 y1 f1 = 0 → loE s2 p2 y2 f2 = 0 → ¬ (32 < p1.length + p2.length ∨ 32 < y1.length + y2.length) → ∀ P cp G d t P' n' c' G' m' d' f' q W9, ResR (loE s1 (p1 ++ p2) (y1 ++ y2) (min f1 f2)) s1 P (p1 ++ p2).length cp G (y1 ++ y2).length d (min f1 f2) t P' n' c' G' m' d' f' q → Pcs W9 P (p1 ++ p2) → Eyes W9 G (y1 ++ y2) → Up w W9 → JnQ s1 p1 y1 f1 s2 p2 y2 f2 w (.returned (.tuple #[loV t P' n' c' G' m' d' f', .int .i64 q])) W9 from fun m n o P cp G d t P' n' c' G' m' d' f' q W9 hr hp hy hu => by
    rcases hr with ⟨e, rfl, rfl, rfl, rfl, rfl, rfl, rfl, rfl, rfl⟩ | ⟨e, rfl, rfl, rfl, rfl, rfl, rfl, rfl, rfl, rfl⟩
    · have e9 : jnE t p1 y1 f1 s2 p2 y2 f2 = 0 := by unfold jnE; rw [if_pos m, if_pos n, if_neg o, if_pos e]
      exact ⟨.inr ⟨_, _, _, _, rfl, e9, hp, hy⟩, hu⟩
    · have e9 : jnE s1 p1 y1 f1 s2 p2 y2 f2 = 4 := by unfold jnE; rw [if_pos m, if_pos n, if_neg o, if_neg e]
      exact ⟨.inl ⟨by rw [e9], by rw [e9]; decide⟩, hu⟩)
  obtain ⟨QQ, hQQ⟩ : ∃ Q, Q = JnQ s1 p1 y1 f1 s2 p2 y2 f2 w := ⟨_, rfl⟩
  rw [← hQQ] at HPa HPb HPc HPd
  change Calls Try.prog 15 _ w fun e w' => JnQ s1 p1 y1 f1 s2 p2 y2 f2 w e w'
  rw [← hQQ]
  obtain ⟨E1, hE1⟩ : ∃ n, loE s1 p1 y1 f1 = n := ⟨_, rfl⟩
  obtain ⟨E2, hE2⟩ : ∃ n, loE s2 p2 y2 f2 = n := ⟨_, rfl⟩
  obtain ⟨E3, hE3⟩ : ∃ n, loE s1 (p1 ++ p2) (y1 ++ y2) (min f1 f2) = n := ⟨_, rfl⟩
  obtain ⟨L1, hL1⟩ : ∃ n, p1.length = n := ⟨_, rfl⟩
  obtain ⟨L2, hL2⟩ : ∃ n, p2.length = n := ⟨_, rfl⟩
  obtain ⟨N, hN⟩ : ∃ n, (p1 ++ p2).length = n := ⟨_, rfl⟩
  obtain ⟨M1, hM1⟩ : ∃ n, y1.length = n := ⟨_, rfl⟩
  obtain ⟨M2, hM2⟩ : ∃ n, y2.length = n := ⟨_, rfl⟩
  obtain ⟨MM, hMM⟩ : ∃ n, (y1 ++ y2).length = n := ⟨_, rfl⟩
  obtain ⟨f, hf⟩ : ∃ n, min f1 f2 = n := ⟨_, rfl⟩
  rw [hE1] at HC1 HN HPa HPb HPc HPd
  rw [hE2] at HC2 HN HPb HPc HPd
  rw [hE3] at HR HPd
  rw [hL1] at b1 HCo HCe HR HN HPc HPd ⊢
  rw [hL2] at b1 HCo HCe HR HN HPc HPd ⊢
  rw [hN] at HCo HR HPd
  rw [hM1] at b2 HCo HCe HR HPc HPd ⊢
  rw [hM2] at b2 HCo HCe HR HPc HPd ⊢
  rw [hMM] at HCe HR HPd
  rw [hf] at HR HPd
  rw [hL1] at HC1
  rw [hM1] at HC1
  rw [hL2] at HC2
  rw [hM2] at HC2
  have HF := hide hf
  have hi := fun W => (ix2A s1 s2 P1 P2 G1 G2 L1 L2 d1 d2 M1 M2 k1 k2 f1 f2 W).1
  have hj := fun W => (ix2A s1 s2 P1 P2 G1 G2 L1 L2 d1 d2 M1 M2 k1 k2 f1 f2 W).2
  clear h1 h2 v1 v2 hE1 hE2 hE3 hL1 hL2 hN hM1 hM2 hMM hf hQQ
  go_enter Try.func15, Try.ntmps15
  go_upto_region 1 with fail
  refine at_wpC (fun W0 hW0 => ?_)
  have U0 : Up w W0 := by rw [hW0]; exact (by repeat' (first | (with_reducible exact up_refl _) | (with_reducible assumption) | (with_reducible refine up_alloc ?_ _) | (with_reducible refine up_drewN ?_ _) | (with_reducible refine up_drew ?_) | (with_reducible refine up_set ?_ (by first | (simp; done) | (simp; omega) | omega) _) | (refine up_trans ?_ (by with_reducible assumption))))
  obtain ⟨bA, bB, bR⟩ : Bx W0 w.heap.size [.string s1, .slice P1 L1 d1, .slice G1 M1 k1, .int .i64 f1] ∧ Bx W0 (w.heap.size + 1) [.string s2, .slice P2 L2 d2, .slice G2 M2 k2, .int .i64 f2] ∧ Bx W0 (w.heap.size + 1 + 1) [.string { data := #[] }, .slice none 0 0, .slice none 0 0, .int .i64 0] := by
    rw [hW0]
    exact bx_threeA w _ _ _ _
  clear hW0
  have hJ0 : JBA s1 s2 P1 P2 G1 G2 L1 L2 d1 d2 M1 M2 k1 k2 f1 f2 w W0 := ⟨bA, bB, ⟨_, _, _, _, bR⟩, U0⟩
  have c0 := (bA 0 _ rfl).1
  have c1 := (bA 1 _ rfl).1
  have c2 := (bA 2 _ rfl).1
  have c3 := (bA 3 _ rfl).1
  have e0 := (bB 0 _ rfl).1
  have e1 := (bB 1 _ rfl).1
  have e2 := (bB 2 _ rfl).1
  have e3 := (bB 3 _ rfl).1
  go_upto_region 2 with fail
  clear c0 c1 c2 c3 e0 e1 e2 e3 bA bB bR U0
  go_loopw [12] (fun s12 wr => JnI E1 E2 s12 ∧ JBA s1 s2 P1 P2 G1 G2 L1 L2 d1 d2 M1 M2 k1 k2 f1 f2 w wr) (fun s12 _ => 2 - (intOf s12).toNat)
  case atStart => exact ⟨.inl rfl, hJ0⟩
  case round =>
    clear hJ0
    obtain ⟨hs, hJ⟩ := hrel
    rcases hs with rfl | ⟨rfl, rfl⟩ | ⟨rfl, rfl, rfl⟩
    · have ii := hi wr
      go_upto_region 4 with fail
      refine at_wpC (fun W4 hW4 => ?_)
      have u4 : Up wr W4 := by rw [hW4]; exact (by repeat' (first | (with_reducible exact up_refl _) | (with_reducible assumption) | (with_reducible refine up_alloc ?_ _) | (with_reducible refine up_drewN ?_ _) | (with_reducible refine up_drew ?_) | (with_reducible refine up_set ?_ (by first | (simp; done) | (simp; omega) | omega) _) | (refine up_trans ?_ (by with_reducible assumption))))
      have b4 : Bx W4 wr.heap.size [.string s1, .slice P1 L1 d1, .slice G1 M1 k1, .int .i64 f1] := by rw [hW4]; exact bx_new wr _ _
      clear hW4 ii
      have c0 := (b4 0 _ rfl).1
      have c1 := (b4 1 _ rfl).1
      have c2 := (b4 2 _ rfl).1
      have c3 := (b4 3 _ rfl).1
      have J4 := hJ.ups u4
      by_cases he : E1 = 0
      · subst he
        have HJ := hide J4
        have u04 := J4.2.2.2
        clear hJ J4
        go_wp2_with (go_at_call 34; (with_reducible refine (unhide HC1 _ u04).mono ?_); rintro e w5 ⟨rfl, u5⟩)
        go_roundw
        case rel => exact ⟨.inr (.inl ⟨rfl, rfl⟩), (unhide HJ).ups u5⟩
        case measure => simp [intOf]
      · have t0 : (E1 == 0) = false := by simp [he]
        have HE := hide he
        have u04 := J4.2.2.2
        clear he hJ
        go_upto_region 6 with (go_at_call 34; (with_reducible refine (unhide HC1 _ u04).mono ?_); rintro e w5 ⟨rfl, u5⟩; have J5 := J4.ups u5)
        clear J4 c0 c1 c2 c3
        obtain ⟨r0, r1, r2, r3, bR⟩ := J5.2.2.1
        have y0 := (bR 0 _ rfl).1
        have g0 := (bR 0 _ rfl).2
        have y1 := (bR 1 _ rfl).1
        have g1 := (bR 1 _ rfl).2
        have y2 := (bR 2 _ rfl).1
        have g2 := (bR 2 _ rfl).2
        have y3 := (bR 3 _ rfl).1
        have g3 := (bR 3 _ rfl).2
        go_wp2_with fail
        have J9 := JBA.set J5 (.string { data := #[] }) (.slice none 0 0) (.slice none 0 0) (.int .i64 0)
        obtain ⟨_, _, ⟨t0, t1, t2, t3, bT⟩, _⟩ := J5
        have B9 := bx_set (bx_set (bx_set (bx_set bT 0 (.string { data := #[] })) 1 (.slice none 0 0)) 2 (.slice none 0 0)) 3 (.int .i64 0)
        have U9 := J9.2.2.2
        generalize ((((w5.setCell ⟨w.heap.size + 1 + 1, 0, none⟩ (.string { data := #[] })).setCell ⟨w.heap.size + 1 + 1, 1, none⟩ (.slice none 0 0)).setCell ⟨w.heap.size + 1 + 1, 2, none⟩ (.slice none 0 0)).setCell ⟨w.heap.size + 1 + 1, 3, none⟩ (.int .i64 0)) = W9 at B9 U9 ⊢
        have z0 := (B9 0 _ rfl).1
        have z1 := (B9 1 _ rfl).1
        have z2 := (B9 2 _ rfl).1
        have z3 := (B9 3 _ rfl).1
        refine bodyPost_ret (v := .tuple #[lo0L, .int .i64 E1]) (by simp [results, Try.f15, go_sem, z0, z1, z2, z3]) rfl ?_
        exact unhide HPa (unhide HE) W9 U9
    · have ii := hj wr
      go_upto_region 4 with fail
      refine at_wpC (fun W4 hW4 => ?_)
      have u4 : Up wr W4 := by rw [hW4]; exact (by repeat' (first | (with_reducible exact up_refl _) | (with_reducible assumption) | (with_reducible refine up_alloc ?_ _) | (with_reducible refine up_drewN ?_ _) | (with_reducible refine up_drew ?_) | (with_reducible refine up_set ?_ (by first | (simp; done) | (simp; omega) | omega) _) | (refine up_trans ?_ (by with_reducible assumption))))
      have b4 : Bx W4 wr.heap.size [.string s2, .slice P2 L2 d2, .slice G2 M2 k2, .int .i64 f2] := by rw [hW4]; exact bx_new wr _ _
      clear hW4 ii
      have c0 := (b4 0 _ rfl).1
      have c1 := (b4 1 _ rfl).1
      have c2 := (b4 2 _ rfl).1
      have c3 := (b4 3 _ rfl).1
      have J4 := hJ.ups u4
      by_cases he : E2 = 0
      · subst he
        have HJ := hide J4
        have u04 := J4.2.2.2
        clear hJ J4
        go_wp2_with (go_at_call 34; (with_reducible refine (unhide HC2 _ u04).mono ?_); rintro e w5 ⟨rfl, u5⟩)
        go_roundw
        case rel => exact ⟨.inr (.inr ⟨rfl, rfl, rfl⟩), (unhide HJ).ups u5⟩
        case measure => simp [intOf]
      · have t0 : (E2 == 0) = false := by simp [he]
        have HE := hide he
        have u04 := J4.2.2.2
        clear he hJ
        go_upto_region 6 with (go_at_call 34; (with_reducible refine (unhide HC2 _ u04).mono ?_); rintro e w5 ⟨rfl, u5⟩; have J5 := J4.ups u5)
        clear J4 c0 c1 c2 c3
        obtain ⟨r0, r1, r2, r3, bR⟩ := J5.2.2.1
        have y0 := (bR 0 _ rfl).1
        have g0 := (bR 0 _ rfl).2
        have y1 := (bR 1 _ rfl).1
        have g1 := (bR 1 _ rfl).2
        have y2 := (bR 2 _ rfl).1
        have g2 := (bR 2 _ rfl).2
        have y3 := (bR 3 _ rfl).1
        have g3 := (bR 3 _ rfl).2
        go_wp2_with fail
        have J9 := JBA.set J5 (.string { data := #[] }) (.slice none 0 0) (.slice none 0 0) (.int .i64 0)
        obtain ⟨_, _, ⟨t0, t1, t2, t3, bT⟩, _⟩ := J5
        have B9 := bx_set (bx_set (bx_set (bx_set bT 0 (.string { data := #[] })) 1 (.slice none 0 0)) 2 (.slice none 0 0)) 3 (.int .i64 0)
        have U9 := J9.2.2.2
        generalize ((((w5.setCell ⟨w.heap.size + 1 + 1, 0, none⟩ (.string { data := #[] })).setCell ⟨w.heap.size + 1 + 1, 1, none⟩ (.slice none 0 0)).setCell ⟨w.heap.size + 1 + 1, 2, none⟩ (.slice none 0 0)).setCell ⟨w.heap.size + 1 + 1, 3, none⟩ (.int .i64 0)) = W9 at B9 U9 ⊢
        have z0 := (B9 0 _ rfl).1
        have z1 := (B9 1 _ rfl).1
        have z2 := (B9 2 _ rfl).1
        have z3 := (B9 3 _ rfl).1
        refine bodyPost_ret (v := .tuple #[lo0L, .int .i64 E2]) (by simp [results, Try.f15, go_sem, z0, z1, z2, z3]) rfl ?_
        exact unhide HPb (by first | rfl | trivial) (unhide HE) W9 U9
    · have HNn := unhide HN rfl rfl
      have HPc' := hide (unhide HPc rfl rfl)
      have HPd' := hide (unhide HPd rfl rfl)
      have w1 : IntKind.i64.wrap ((L1 : Int) + (L2 : Int)) = (L1 : Int) + (L2 : Int) := IntWalk.i64_in _ ⟨by omega, by omega⟩
      have w2 : IntKind.i64.wrap ((M1 : Int) + (M2 : Int)) = (M1 : Int) + (M2 : Int) := IntWalk.i64_in _ ⟨by omega, by omega⟩
      have c1 := (hJ.1 1 _ rfl).1
      have c2 := (hJ.1 2 _ rfl).1
      have e1 := (hJ.2.1 1 _ rfl).1
      have e2 := (hJ.2.1 2 _ rfl).1
      clear HC1 HC2 HPa HPb HPc HPd HN hi hj
      by_cases g1 : 32 < (L1 : Int) + (L2 : Int)
      · have HP := hide (unhide HPc' (.inl (by omega)))
        clear HCo HCe HR HPc' HPd'
        obtain ⟨r0, r1, r2, r3, bR⟩ := hJ.2.2.1
        have y0 := (bR 0 _ rfl).1
        have g0 := (bR 0 _ rfl).2
        have y1 := (bR 1 _ rfl).1
        have g1 := (bR 1 _ rfl).2
        have y2 := (bR 2 _ rfl).1
        have g2 := (bR 2 _ rfl).2
        have y3 := (bR 3 _ rfl).1
        have g3 := (bR 3 _ rfl).2
        go_wp2_with fail
        have J9 := JBA.set hJ (.string { data := #[] }) (.slice none 0 0) (.slice none 0 0) (.int .i64 0)
        obtain ⟨_, _, ⟨t0, t1, t2, t3, bT⟩, _⟩ := hJ
        have B9 := bx_set (bx_set (bx_set (bx_set bT 0 (.string { data := #[] })) 1 (.slice none 0 0)) 2 (.slice none 0 0)) 3 (.int .i64 0)
        have U9 := J9.2.2.2
        generalize ((((wr.setCell ⟨w.heap.size + 1 + 1, 0, none⟩ (.string { data := #[] })).setCell ⟨w.heap.size + 1 + 1, 1, none⟩ (.slice none 0 0)).setCell ⟨w.heap.size + 1 + 1, 2, none⟩ (.slice none 0 0)).setCell ⟨w.heap.size + 1 + 1, 3, none⟩ (.int .i64 0)) = W9 at B9 U9 ⊢
        have z0 := (B9 0 _ rfl).1
        have z1 := (B9 1 _ rfl).1
        have z2 := (B9 2 _ rfl).1
        have z3 := (B9 3 _ rfl).1
        refine bodyPost_ret (v := .tuple #[lo0L, .int .i64 6]) (by simp [results, Try.f15, go_sem, z0, z1, z2, z3]) rfl ?_
        exact unhide HP W9 U9
      by_cases g2 : 32 < (M1 : Int) + (M2 : Int)
      · have HP := hide (unhide HPc' (.inr (by omega)))
        clear HCo HCe HR HPc' HPd'
        obtain ⟨r0, r1, r2, r3, bR⟩ := hJ.2.2.1
        have y0 := (bR 0 _ rfl).1
        have g0 := (bR 0 _ rfl).2
        have y1 := (bR 1 _ rfl).1
        have g1 := (bR 1 _ rfl).2
        have y2 := (bR 2 _ rfl).1
        have g2 := (bR 2 _ rfl).2
        have y3 := (bR 3 _ rfl).1
        have g3 := (bR 3 _ rfl).2
        go_wp2_with fail
        have J9 := JBA.set hJ (.string { data := #[] }) (.slice none 0 0) (.slice none 0 0) (.int .i64 0)
        obtain ⟨_, _, ⟨t0, t1, t2, t3, bT⟩, _⟩ := hJ
        have B9 := bx_set (bx_set (bx_set (bx_set bT 0 (.string { data := #[] })) 1 (.slice none 0 0)) 2 (.slice none 0 0)) 3 (.int .i64 0)
        have U9 := J9.2.2.2
        generalize ((((wr.setCell ⟨w.heap.size + 1 + 1, 0, none⟩ (.string { data := #[] })).setCell ⟨w.heap.size + 1 + 1, 1, none⟩ (.slice none 0 0)).setCell ⟨w.heap.size + 1 + 1, 2, none⟩ (.slice none 0 0)).setCell ⟨w.heap.size + 1 + 1, 3, none⟩ (.int .i64 0)) = W9 at B9 U9 ⊢
        have z0 := (B9 0 _ rfl).1
        have z1 := (B9 1 _ rfl).1
        have z2 := (B9 2 _ rfl).1
        have z3 := (B9 3 _ rfl).1
        refine bodyPost_ret (v := .tuple #[lo0L, .int .i64 6]) (by simp [results, Try.f15, go_sem, z0, z1, z2, z3]) rfl ?_
        exact unhide HP W9 U9
      · have HP := hide (unhide HPd' (by omega))
        have HCo := hide (unhide HCo ⟨HNn.1, HNn.2⟩ (by omega))
        have HCe := hide (unhide HCe (by omega))
        have HX1 := hide b1
        have HX2 := hide b2
        have hmin := unhide HF
        clear HPc' HPd' HNn b1 b2 HF
        go_upto_region 10 with fail
        clear c1 c2 e1 e2 w1 w2 g1 g2
        have H0 := hJ
        go_region_held3 (fun wx => wx.cell? ⟨w.heap.size, 0, none⟩ = some (.string s1) ∧ wx.cell? ⟨w.heap.size, 1, none⟩ = some (.slice P1 L1 d1) ∧ wx.cell? ⟨w.heap.size, 2, none⟩ = some (.slice G1 M1 k1) ∧ wx.cell? ⟨w.heap.size, 3, none⟩ = some (.int .i64 f1) ∧ wx.cell? ⟨w.heap.size + 1, 1, none⟩ = some (.slice P2 L2 d2) ∧ wx.cell? ⟨w.heap.size + 1, 2, none⟩ = some (.slice G2 M2 k2) ∧ wx.cell? ⟨w.heap.size + 1, 3, none⟩ = some (.int .i64 f2) ∧ JBA s1 s2 P1 P2 G1 G2 L1 L2 d1 d2 M1 M2 k1 k2 f1 f2 w wx) ((first | with_reducible exact JBA.cells hJ4 | with_reducible exact JBA.cells (JBA.set hJ4 _ _ _ _) | exact JBA.cells (JBA.ups H0 (by repeat' (first | (with_reducible exact up_refl _) | (with_reducible assumption) | (with_reducible refine up_alloc ?_ _) | (with_reducible refine up_drewN ?_ _) | (with_reducible refine up_drew ?_) | (with_reducible refine up_set ?_ (by first | (simp; done) | (simp; omega) | omega) _) | (refine up_trans ?_ (by with_reducible assumption)))))))
          (first
            | (go_at_call 41; (with_reducible refine (unhide HCo _ ?_ _ ?_).mono ?_); (· exact JBA.ups H0 (by repeat' (first | (with_reducible exact up_refl _) | (with_reducible assumption) | (with_reducible refine up_alloc ?_ _) | (with_reducible refine up_drewN ?_ _) | (with_reducible refine up_drew ?_) | (with_reducible refine up_set ?_ (by first | (simp; done) | (simp; omega) | omega) _) | (refine up_trans ?_ (by with_reducible assumption))))); (· first | with_reducible exact bx_new _ [.slice P1 L1 d1, .slice P2 L2 d2] _ | with_reducible exact bx_drew (bx_new _ [.slice P1 L1 d1, .slice P2 L2 d2] _) | with_reducible exact bx_newdA _ [.slice P1 L1 d1, .slice P2 L2 d2] _ | with_reducible exact bx_drew (bx_newdA _ [.slice P1 L1 d1, .slice P2 L2 d2] _) | with_reducible exact bx_new1A _ _ [.slice P1 L1 d1, .slice P2 L2 d2] _ | with_reducible exact bx_drew (bx_new1A _ _ [.slice P1 L1 d1, .slice P2 L2 d2] _) | with_reducible exact bx_alloc (bx_new _ [.slice P1 L1 d1, .slice P2 L2 d2] _) _ | with_reducible exact bx_drew (bx_alloc (bx_new _ [.slice P1 L1 d1, .slice P2 L2 d2] _) _) | with_reducible exact bx_alloc (bx_newdA _ [.slice P1 L1 d1, .slice P2 L2 d2] _) _ | with_reducible exact bx_drew (bx_alloc (bx_newdA _ [.slice P1 L1 d1, .slice P2 L2 d2] _) _) | with_reducible exact zP | with_reducible exact bx_drew (zP) | with_reducible exact bx_alloc zP _ | with_reducible exact bx_drew (bx_alloc zP _)); rintro e w2 ⟨⟨P, cp, rfl, hP2, hfar⟩, hu2, hJ2⟩; have HFar := hide hfar; clear hfar; first | (with_reducible have zE := bx_up (bx_new1A _ _ [.slice G1 M1 k1, .slice G2 M2 k2] 23) hu2) | (with_reducible have zE := bx_up (bx_drew (bx_new1A _ _ [.slice G1 M1 k1, .slice G2 M2 k2] 23)) hu2) | (with_reducible have zE := bx_up (bx_alloc (bx_new _ [.slice G1 M1 k1, .slice G2 M2 k2] 23) _) hu2) | (with_reducible have zE := bx_up (bx_drew (bx_alloc (bx_new _ [.slice G1 M1 k1, .slice G2 M2 k2] 23) _)) hu2) | (with_reducible have zE := bx_up (bx_alloc (bx_newdA _ [.slice G1 M1 k1, .slice G2 M2 k2] 23) _) hu2) | (with_reducible have zE := bx_up (bx_drew (bx_alloc (bx_newdA _ [.slice G1 M1 k1, .slice G2 M2 k2] 23) _)) hu2) | (with_reducible have zE := bx_up (bx_new _ [.slice G1 M1 k1, .slice G2 M2 k2] 23) hu2) | (with_reducible have zE := bx_up (bx_drew (bx_new _ [.slice G1 M1 k1, .slice G2 M2 k2] 23)) hu2) | (with_reducible have zE := bx_up (bx_newdA _ [.slice G1 M1 k1, .slice G2 M2 k2] 23) hu2) | (with_reducible have zE := bx_up (bx_drew (bx_newdA _ [.slice G1 M1 k1, .slice G2 M2 k2] 23)) hu2) | (have zE := True.intro))
            | (go_at_call 42; (with_reducible refine (unhide HCe _ ?_ _ ?_).mono ?_); (· exact JBA.ups H0 (by repeat' (first | (with_reducible exact up_refl _) | (with_reducible assumption) | (with_reducible refine up_alloc ?_ _) | (with_reducible refine up_drewN ?_ _) | (with_reducible refine up_drew ?_) | (with_reducible refine up_set ?_ (by first | (simp; done) | (simp; omega) | omega) _) | (refine up_trans ?_ (by with_reducible assumption))))); (· first | with_reducible exact bx_new _ [.slice G1 M1 k1, .slice G2 M2 k2] _ | with_reducible exact bx_drew (bx_new _ [.slice G1 M1 k1, .slice G2 M2 k2] _) | with_reducible exact bx_newdA _ [.slice G1 M1 k1, .slice G2 M2 k2] _ | with_reducible exact bx_drew (bx_newdA _ [.slice G1 M1 k1, .slice G2 M2 k2] _) | with_reducible exact bx_new1A _ _ [.slice G1 M1 k1, .slice G2 M2 k2] _ | with_reducible exact bx_drew (bx_new1A _ _ [.slice G1 M1 k1, .slice G2 M2 k2] _) | with_reducible exact bx_alloc (bx_new _ [.slice G1 M1 k1, .slice G2 M2 k2] _) _ | with_reducible exact bx_drew (bx_alloc (bx_new _ [.slice G1 M1 k1, .slice G2 M2 k2] _) _) | with_reducible exact bx_alloc (bx_newdA _ [.slice G1 M1 k1, .slice G2 M2 k2] _) _ | with_reducible exact bx_drew (bx_alloc (bx_newdA _ [.slice G1 M1 k1, .slice G2 M2 k2] _) _) | with_reducible exact zE | with_reducible exact bx_drew (zE) | with_reducible exact bx_alloc zE _ | with_reducible exact bx_drew (bx_alloc zE _)); rintro e w3 ⟨⟨G, kp, rfl, hY3, hfarY⟩, hu3, hJ3⟩; have HFarY := hide hfarY; clear hfarY; first | (with_reducible have zP := bx_up (bx_new1A _ _ [.slice P1 L1 d1, .slice P2 L2 d2] 22) hu3) | (with_reducible have zP := bx_up (bx_drew (bx_new1A _ _ [.slice P1 L1 d1, .slice P2 L2 d2] 22)) hu3) | (with_reducible have zP := bx_up (bx_alloc (bx_new _ [.slice P1 L1 d1, .slice P2 L2 d2] 22) _) hu3) | (with_reducible have zP := bx_up (bx_drew (bx_alloc (bx_new _ [.slice P1 L1 d1, .slice P2 L2 d2] 22) _)) hu3) | (with_reducible have zP := bx_up (bx_alloc (bx_newdA _ [.slice P1 L1 d1, .slice P2 L2 d2] 22) _) hu3) | (with_reducible have zP := bx_up (bx_drew (bx_alloc (bx_newdA _ [.slice P1 L1 d1, .slice P2 L2 d2] 22) _)) hu3) | (with_reducible have zP := bx_up (bx_new _ [.slice P1 L1 d1, .slice P2 L2 d2] 22) hu3) | (with_reducible have zP := bx_up (bx_drew (bx_new _ [.slice P1 L1 d1, .slice P2 L2 d2] 22)) hu3) | (with_reducible have zP := bx_up (bx_newdA _ [.slice P1 L1 d1, .slice P2 L2 d2] 22) hu3) | (with_reducible have zP := bx_up (bx_drew (bx_newdA _ [.slice P1 L1 d1, .slice P2 L2 d2] 22)) hu3) | (have zP := True.intro))
            | (go_at_call 36; (with_reducible refine (unhide HR _ ?_ P cp G kp ?_ ?_).mono ?_); (· exact JBA.ups H0 (by repeat' (first | (with_reducible exact up_refl _) | (with_reducible assumption) | (with_reducible refine up_alloc ?_ _) | (with_reducible refine up_drewN ?_ _) | (with_reducible refine up_drew ?_) | (with_reducible refine up_set ?_ (by first | (simp; done) | (simp; omega) | omega) _) | (refine up_trans ?_ (by with_reducible assumption))))); (· exact pcs_up hP2 (by repeat' (first | (with_reducible exact up_refl _) | (with_reducible assumption) | (with_reducible refine up_alloc ?_ _) | (with_reducible refine up_drewN ?_ _) | (with_reducible refine up_drew ?_) | (with_reducible refine up_set ?_ (by first | (simp; done) | (simp; omega) | omega) _) | (refine up_trans ?_ (by with_reducible assumption))))); (· exact eyes_up hY3 (by repeat' (first | (with_reducible exact up_refl _) | (with_reducible assumption) | (with_reducible refine up_alloc ?_ _) | (with_reducible refine up_drewN ?_ _) | (with_reducible refine up_drew ?_) | (with_reducible refine up_set ?_ (by first | (simp; done) | (simp; omega) | omega) _) | (refine up_trans ?_ (by with_reducible assumption))))); rintro e w4 ⟨⟨t, P', n', c', G', m', d', f', q, rfl, hRes⟩, hu4, hJ4⟩; have HRes := hide hRes; clear hRes; obtain ⟨r0, r1, r2, r3, bR4⟩ := hJ4.2.2.1; have z0 := (bR4 0 _ rfl).2; have z1 := (bR4 1 _ rfl).2; have z2 := (bR4 2 _ rfl).2; have z3 := (bR4 3 _ rfl).2; have g0 := (bR4 0 _ rfl).1; have g1 := (bR4 1 _ rfl).1; have g2 := (bR4 2 _ rfl).1; have g3 := (bR4 3 _ rfl).1))
        all_goals
          have hP4 : Pcs w4 P (p1 ++ p2) := pcs_up hP2 (by repeat' (first | (with_reducible exact up_refl _) | (with_reducible assumption) | (with_reducible refine up_alloc ?_ _) | (with_reducible refine up_drewN ?_ _) | (with_reducible refine up_drew ?_) | (with_reducible refine up_set ?_ (by first | (simp; done) | (simp; omega) | omega) _) | (refine up_trans ?_ (by with_reducible assumption))))
          have hY4 : Eyes w4 G (y1 ++ y2) := eyes_up hY3 (by repeat' (first | (with_reducible exact up_refl _) | (with_reducible assumption) | (with_reducible refine up_alloc ?_ _) | (with_reducible refine up_drewN ?_ _) | (with_reducible refine up_drew ?_) | (with_reducible refine up_set ?_ (by first | (simp; done) | (simp; omega) | omega) _) | (refine up_trans ?_ (by with_reducible assumption))))
          have B9 := bx_set (bx_set (bx_set (bx_set bR4 0 (.string t)) 1 (.slice P' n' c')) 2 (.slice G' m' d')) 3 (.int .i64 f')
          have U9 := (JBA.set hJ4 (.string t) (.slice P' n' c') (.slice G' m' d') (.int .i64 f')).2.2.2
          have Q9 := (pcs_farA (pcs_farA (pcs_farA (pcs_farA hP4 (p := ⟨w.heap.size + 1 + 1, 0, none⟩) (unhide HFar) (.string t)) (p := ⟨w.heap.size + 1 + 1, 1, none⟩) (unhide HFar) (.slice P' n' c')) (p := ⟨w.heap.size + 1 + 1, 2, none⟩) (unhide HFar) (.slice G' m' d')) (p := ⟨w.heap.size + 1 + 1, 3, none⟩) (unhide HFar) (.int .i64 f'))
          have Y9 := (eyes_farA (eyes_farA (eyes_farA (eyes_farA hY4 (p := ⟨w.heap.size + 1 + 1, 0, none⟩) (unhide HFarY) (.string t)) (p := ⟨w.heap.size + 1 + 1, 1, none⟩) (unhide HFarY) (.slice P' n' c')) (p := ⟨w.heap.size + 1 + 1, 2, none⟩) (unhide HFarY) (.slice G' m' d')) (p := ⟨w.heap.size + 1 + 1, 3, none⟩) (unhide HFarY) (.int .i64 f'))
          generalize ((((w4.setCell ⟨w.heap.size + 1 + 1, 0, none⟩ (.string t)).setCell ⟨w.heap.size + 1 + 1, 1, none⟩ (.slice P' n' c')).setCell ⟨w.heap.size + 1 + 1, 2, none⟩ (.slice G' m' d')).setCell ⟨w.heap.size + 1 + 1, 3, none⟩ (.int .i64 f')) = W9 at B9 U9 Q9 Y9 ⊢
          have z0 := (B9 0 _ rfl).1
          have z1 := (B9 1 _ rfl).1
          have z2 := (B9 2 _ rfl).1
          have z3 := (B9 3 _ rfl).1
          simp only [Exit.then]
          apply ‹∀ (a : Act) (w : World), _ → _›
          apply wp_ret
          refine bodyPost_ret (v := .tuple #[loV t P' n' c' G' m' d' f', .int .i64 q]) (by simp [results, Try.f15, go_sem, z0, z1, z2, z3]) rfl ?_
          exact unhide HP _ _ _ _ _ _ _ _ _ _ _ _ _ W9 (unhide HRes) Q9 Y9 U9
end Go.Proofs.Ytdehnokcjnbjoaa
