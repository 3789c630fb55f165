/- LoadCentres: the law's function returns true. -/
import Derived.Test.YtdehnokcjnbjoaaLdJn
import Derived.Test.YtdehnokcjnbjoaaPkLdQ
import Derived.Test.YtdehnokcjnbjoaaPkLdCw
import Derived.Test.YtdehnokcjnbjoaaPkLdZ
namespace Go.Proofs.Ytdehnokcjnbjoaa
open Go.RowKit Go.Proofs.Gn
attribute [local go_sem] Oper.semAt_some
set_option linter.unusedVariables false
/-- The boxes of both loads. -/
def LcB (a b : List Value) (w wx : World) : Prop := Bx wx w.heap.size a ∧ Bx wx (w.heap.size + 1) b ∧ Up w wx
theorem LcB.ups {a b : List Value} {w wx wy : World} (h : LcB a b w wx) (hu : Up wx wy) : LcB a b w wy := ⟨bx_up h.1 hu, bx_up h.2.1 hu, up_trans h.2.2 hu⟩
theorem LcB.up {a b : List Value} {w wx : World} (h : LcB a b w wx) : Up w wx := h.2.2
theorem LcB.start (a b : List Value) (T : TypeId) (w : World) : LcB a b w ((w.alloc (.cells a.toArray T)).alloc (.cells b.toArray T)) := by
  refine ⟨bx_alloc (bx_new w _ _) _, ?_, up_alloc (up_alloc (up_refl _) _) _⟩
  have q := bx_new (w.alloc (.cells a.toArray T)) b T
  rw [World.size_alloc] at q
  exact q
theorem shE_ok {s : ByteArray} {ps : List Pce} {ys : List Eye} {f a b c : Int} (h : shE s ps ys f a b c = 0) : ((-262144 ≤ a ∧ a ≤ 262144) ∧ (-262144 ≤ b ∧ b ≤ 262144) ∧ (-262144 ≤ c ∧ c ≤ 262144)) ∧ loE s (ps.map (shP a b c)) (ys.map (shY a b c)) f = 0 := by
  unfold shE at h
  by_cases h1 : (wiS a && (wiS b && wiS c)) = true
  · rw [if_pos h1] at h
    simp only [Bool.and_eq_true] at h1
    by_cases h2 : loE s (ps.map (shP a b c)) (ys.map (shY a b c)) f = 0
    · exact ⟨⟨win_t h1.1, win_t h1.2.1, win_t h1.2.2⟩, h2⟩
    · rw [if_neg h2] at h; omega
  · rw [if_neg h1] at h; omega
theorem jnE_ok {s1 s2 : ByteArray} {p1 p2 : List Pce} {y1 y2 : List Eye} {f1 f2 : Int} (h : jnE s1 p1 y1 f1 s2 p2 y2 f2 = 0) : loE s1 p1 y1 f1 = 0 ∧ loE s2 p2 y2 f2 = 0 ∧ loE s1 (p1 ++ p2) (y1 ++ y2) (min f1 f2) = 0 := by
  unfold jnE at h
  by_cases h1 : loE s1 p1 y1 f1 = 0
  · rw [if_pos h1] at h
    by_cases h2 : loE s2 p2 y2 f2 = 0
    · rw [if_pos h2] at h
      by_cases h3 : 32 < p1.length + p2.length ∨ 32 < y1.length + y2.length
      · rw [if_pos h3] at h; omega
      · rw [if_neg h3] at h
        by_cases h4 : loE s1 (p1 ++ p2) (y1 ++ y2) (min f1 f2) = 0
        · exact ⟨h1, h2, h4⟩
        · rw [if_neg h4] at h; omega
    · rw [if_neg h2] at h; exact absurd h h2
  · rw [if_neg h1] at h; exact absurd h h1
/-- A load that is handed back, with its error. -/
def LdBack (s : ByteArray) (n m : Nat) (f : Int) (L : List Pce) (Y : List Eye) (ok : Prop) (w : World) (e : Ending) (w' : World) : Prop :=
  (∃ t P k c G l d g q, e = .returned (.tuple #[loV t P k c G l d g, .int .i64 q]) ∧ (q = 0 → t = s ∧ k = n ∧ l = m ∧ g = f ∧ ok) ∧ (q = 0 → ∀ W, Up w' W → Pcs W P L ∧ Eyes W G Y)) ∧ Up w w'
theorem s_Shifted (s : ByteArray) (A : Option Addr) (ps : List Pce) (cp : Nat) (B : Option Addr) (ys : List Eye) (cb : Nat) (f a b c : Int) (w : World) (h : Pcs w A ps) (hB : Eyes w B ys) (hE : loE s ps ys f = 0) :
    Calls Try.prog 13 #[loV s A ps.length cp B ys.length cb f, .int .i64 a, .int .i64 b, .int .i64 c] w fun e w' => LdBack s ps.length ys.length f (ps.map (shP a b c)) (ys.map (shY a b c)) (((-262144 ≤ a ∧ a ≤ 262144) ∧ (-262144 ≤ b ∧ b ≤ 262144) ∧ (-262144 ≤ c ∧ c ≤ 262144)) ∧ loE s (ps.map (shP a b c)) (ys.map (shY a b c)) f = 0) w e w' := by
  refine (p_ShiftedL s A ps cp B ys cb f a b c w h hB hE).mono fun e w' hQ => ?_
  obtain ⟨⟨he, hne⟩ | ⟨P, cq, G, d, he, h0, hp, hy⟩, hu⟩ := hQ
  · exact ⟨⟨_, _, _, _, _, _, _, _, _, he, fun q => absurd q hne, fun q => absurd q hne⟩, hu⟩
  · exact ⟨⟨_, _, _, _, _, _, _, _, _, he, fun _ => ⟨rfl, rfl, rfl, rfl, shE_ok h0⟩, fun _ W hW => ⟨pcs_up hp hW, eyes_up hy hW⟩⟩, hu⟩
theorem s_Joined (s1 s2 : ByteArray) (P1 P2 G1 G2 : Option Addr) (p1 p2 : List Pce) (y1 y2 : List Eye) (d1 d2 k1 k2 : Nat) (f1 f2 : Int) (w : World) (h1 : Pcs w P1 p1) (h2 : Pcs w P2 p2) (v1 : Eyes w G1 y1) (v2 : Eyes w G2 y2) (b1 : p1.length ≤ 1000 ∧ p2.length ≤ 1000) (b2 : y1.length ≤ 1000 ∧ y2.length ≤ 1000) :
    Calls Try.prog 15 #[loV s1 P1 p1.length d1 G1 y1.length k1 f1, loV s2 P2 p2.length d2 G2 y2.length k2 f2] w fun e w' => LdBack s1 (p1 ++ p2).length (y1 ++ y2).length (min f1 f2) (p1 ++ p2) (y1 ++ y2) (loE s1 p1 y1 f1 = 0 ∧ loE s2 p2 y2 f2 = 0 ∧ loE s1 (p1 ++ p2) (y1 ++ y2) (min f1 f2) = 0) w e w' := by
  refine (p_JoinedA s1 s2 P1 P2 G1 G2 p1 p2 y1 y2 d1 d2 k1 k2 f1 f2 w h1 h2 v1 v2 b1 b2).mono fun e w' hQ => ?_
  obtain ⟨⟨he, hne⟩ | ⟨P, cq, G, d, he, h0, hp, hy⟩, hu⟩ := hQ
  · exact ⟨⟨_, _, _, _, _, _, _, _, _, he, fun q => absurd q hne, fun q => absurd q hne⟩, hu⟩
  · exact ⟨⟨_, _, _, _, _, _, _, _, _, he, fun _ => ⟨rfl, rfl, rfl, rfl, jnE_ok h0⟩, fun _ W hW => ⟨pcs_up hp hW, eyes_up hy hW⟩⟩, hu⟩
/-- The moments of a valid load. -/
theorem s_Moments (s : ByteArray) (A : Option Addr) (ps : List Pce) (cA : Nat) (B : Option Addr) (ys : List Eye) (cB : Nat) (f : Int) (w : World) (hA : Pcs w A ps) (hB : Eyes w B ys) (h : loE s ps ys f = 0) :
    Calls Try.prog 28 #[loV s A ps.length cA B ys.length cB f] w fun e w' => e = .returned (.tuple #[.agg #[.int .i64 (mo fX ps), .int .i64 (mo fY ps), .int .i64 (mo fZ ps)], .int .i64 0]) ∧ Up w w' := by
  have q := p_MomentsL s A ps cA B ys cB f w hA hB (by have := (loE_ok h).1; omega) (by have := (loE_ok h).1; omega)
  unfold loO at q
  simp only [h, if_true] at q
  exact q
theorem s_Mass (s : ByteArray) (A : Option Addr) (ps : List Pce) (cA : Nat) (B : Option Addr) (ys : List Eye) (cB : Nat) (f : Int) (w : World) (hA : Pcs w A ps) (hB : Eyes w B ys) (h : loE s ps ys f = 0) :
    Calls Try.prog 27 #[loV s A ps.length cA B ys.length cB f] w fun e w' => e = .returned (.tuple #[.int .i64 (mas ps), .int .i64 0]) ∧ Up w w' := by
  have q := p_MassL s A ps cA B ys cB f w hA hB (by have := (loE_ok h).1; omega) (by have := (loE_ok h).1; omega)
  unfold loM at q
  simp only [h, if_true] at q
  exact q
set_option maxRecDepth 100000 in
set_option maxHeartbeats 16000000 in
theorem l_Centres1 (s s' : ByteArray) (A A' B B' : Option Addr) (n n' m m' cA cA' cB cB' : Nat) (f f' dx dy dz : Int) (w : World) (hg : grL s n m = true) :
    Calls Try.prog 7 #[loV s A n cA B m cB f, loV s' A' n' cA' B' m' cB' f', .int .i64 dx, .int .i64 dy, .int .i64 dz] w fun e w' => e = .returned (.bool true) ∧ Up w w' := by
  have HG1 := hide (fun W => p_greatL s A n cA B m cB f W)
  have HK := hide (fun W => p_knownL W)
  rw [hg] at HG1
  clear hg
  go_enter Try.func7, Try.ntmps7
  go_upto_region 1 with fail
  refine at_wpC (fun W0 hW0 => ?_)
  have h0 : LcB [.string s, .slice A n cA, .slice B m cB, .int .i64 f] [.string s', .slice A' n' cA', .slice B' m' cB', .int .i64 f'] w W0 := by rw [hW0]; exact LcB.start _ _ _ _
  clear hW0
  have c0 := (h0.1 0 _ rfl).1
  have c1 := (h0.1 1 _ rfl).1
  have c2 := (h0.1 2 _ rfl).1
  have c3 := (h0.1 3 _ rfl).1
  go_wp2_with (first
    | (go_at_call 8; (with_reducible refine (unhide HG1 _).mono ?_); rintro e w1 ⟨rfl, u1⟩; have h1 := h0.ups u1; have d0 := (h1.2.1 0 _ rfl).1; have d1 := (h1.2.1 1 _ rfl).1; have d2 := (h1.2.1 2 _ rfl).1; have d3 := (h1.2.1 3 _ rfl).1)
    | (go_at_call 9; (with_reducible refine (unhide HK _).mono ?_); rintro e w9 ⟨rfl, u9⟩))
  go_ret
  exact ⟨rfl, up_trans h1.2.2 u9⟩
set_option maxRecDepth 100000 in
set_option maxHeartbeats 16000000 in
theorem l_Centres2 (s s' : ByteArray) (A A' B B' : Option Addr) (n n' m m' cA cA' cB cB' : Nat) (f f' dx dy dz : Int) (w : World) (hg : grL s n m = false) (hg' : grL s' n' m' = true) :
    Calls Try.prog 7 #[loV s A n cA B m cB f, loV s' A' n' cA' B' m' cB' f', .int .i64 dx, .int .i64 dy, .int .i64 dz] w fun e w' => e = .returned (.bool true) ∧ Up w w' := by
  have HG1 := hide (fun W => p_greatL s A n cA B m cB f W)
  have HG2 := hide (fun W => p_greatL s' A' n' cA' B' m' cB' f' W)
  have HK := hide (fun W => p_knownL W)
  rw [hg] at HG1
  rw [hg'] at HG2
  clear hg hg'
  go_enter Try.func7, Try.ntmps7
  go_upto_region 1 with fail
  refine at_wpC (fun W0 hW0 => ?_)
  have h0 : LcB [.string s, .slice A n cA, .slice B m cB, .int .i64 f] [.string s', .slice A' n' cA', .slice B' m' cB', .int .i64 f'] w W0 := by rw [hW0]; exact LcB.start _ _ _ _
  clear hW0
  have c0 := (h0.1 0 _ rfl).1
  have c1 := (h0.1 1 _ rfl).1
  have c2 := (h0.1 2 _ rfl).1
  have c3 := (h0.1 3 _ rfl).1
  go_wp2_with (first
    | (go_at_call 8; (with_reducible refine (unhide HG1 _).mono ?_); rintro e w1 ⟨rfl, u1⟩; have h1 := h0.ups u1; have d0 := (h1.2.1 0 _ rfl).1; have d1 := (h1.2.1 1 _ rfl).1; have d2 := (h1.2.1 2 _ rfl).1; have d3 := (h1.2.1 3 _ rfl).1)
    | (go_at_call 8; (with_reducible refine (unhide HG2 _).mono ?_); rintro e w2 ⟨rfl, u2⟩; have h2 := h1.ups u2; have x0 := (h2.1 0 _ rfl).1; have x1 := (h2.1 1 _ rfl).1; have x2 := (h2.1 2 _ rfl).1; have x3 := (h2.1 3 _ rfl).1)
    | (go_at_call 9; (with_reducible refine (unhide HK _).mono ?_); rintro e w9 ⟨rfl, u9⟩))
  go_ret
  exact ⟨rfl, up_trans h2.2.2 u9⟩
set_option maxRecDepth 100000 in
set_option maxHeartbeats 16000000 in
theorem l_Centres3 (s s' : ByteArray) (A A' B B' : Option Addr) (n n' m m' cA cA' cB cB' : Nat) (f f' dx dy dz : Int) (w : World) (hg : grL s n m = false) (hg' : grL s' n' m' = false) (E M X Y Z : Int) (hE : E ≠ 0) (HM : Hid (∀ W, Up w W → Calls Try.prog 27 #[loV s A n cA B m cB f] W fun e w' => e = .returned (.tuple #[.int .i64 M, .int .i64 E]) ∧ Up W w')) (HO : Hid (∀ W, Up w W → Calls Try.prog 28 #[loV s A n cA B m cB f] W fun e w' => e = .returned (.tuple #[.agg #[.int .i64 X, .int .i64 Y, .int .i64 Z], .int .i64 E]) ∧ Up W w')) :
    Calls Try.prog 7 #[loV s A n cA B m cB f, loV s' A' n' cA' B' m' cB' f', .int .i64 dx, .int .i64 dy, .int .i64 dz] w fun e w' => e = .returned (.bool true) ∧ Up w w' := by
  have HG1 := hide (fun W => p_greatL s A n cA B m cB f W)
  have HG2 := hide (fun W => p_greatL s' A' n' cA' B' m' cB' f' W)
  have HK := hide (fun W => p_knownL W)
  rw [hg] at HG1
  rw [hg'] at HG2
  have t0 : (E == 0) = false := by simp [hE]
  have t1 : (E != 0) = true := by simp [hE]
  have t2 : (E == E) = true := by simp
  clear hg hg' hE
  go_enter Try.func7, Try.ntmps7
  go_upto_region 1 with fail
  refine at_wpC (fun W0 hW0 => ?_)
  have h0 : LcB [.string s, .slice A n cA, .slice B m cB, .int .i64 f] [.string s', .slice A' n' cA', .slice B' m' cB', .int .i64 f'] w W0 := by rw [hW0]; exact LcB.start _ _ _ _
  clear hW0
  have c0 := (h0.1 0 _ rfl).1
  have c1 := (h0.1 1 _ rfl).1
  have c2 := (h0.1 2 _ rfl).1
  have c3 := (h0.1 3 _ rfl).1
  go_wp2_with (first
    | (go_at_call 8; (with_reducible refine (unhide HG1 _).mono ?_); rintro e w1 ⟨rfl, u1⟩; have h1 := h0.ups u1; have d0 := (h1.2.1 0 _ rfl).1; have d1 := (h1.2.1 1 _ rfl).1; have d2 := (h1.2.1 2 _ rfl).1; have d3 := (h1.2.1 3 _ rfl).1)
    | (go_at_call 8; (with_reducible refine (unhide HG2 _).mono ?_); rintro e w2 ⟨rfl, u2⟩; have h2 := h1.ups u2; have x0 := (h2.1 0 _ rfl).1; have x1 := (h2.1 1 _ rfl).1; have x2 := (h2.1 2 _ rfl).1; have x3 := (h2.1 3 _ rfl).1)
    | (go_at_call 27; (with_reducible refine (unhide HM _ h2.up).mono ?_); rintro e w3 ⟨rfl, u3⟩; have h3 := h2.ups u3; have i0 := (h3.1 0 _ rfl).1; have i1 := (h3.1 1 _ rfl).1; have i2 := (h3.1 2 _ rfl).1; have i3 := (h3.1 3 _ rfl).1)
    | (go_at_call 28; (with_reducible refine (unhide HO _ h3.up).mono ?_); rintro e w4 ⟨rfl, u4⟩; have h4 := h3.ups (up_alloc u4 (.cells #[.int .i64 X, .int .i64 Y, .int .i64 Z] 55)))
    | (go_at_call 9; (with_reducible refine (unhide HK _).mono ?_); rintro e w9 ⟨rfl, u9⟩))
  go_ret
  exact ⟨rfl, up_trans h4.2.2 u9⟩
theorem lc_frame {a b v : List Value} {w wx wy : World} {g : Nat} (h : LcB a b w wx) (hb : Bx wx g v) (u : Up wx wy) : LcB a b w wy ∧ Bx wy g v := ⟨h.ups u, bx_up hb u⟩
theorem bx_two {wx w : World} (x y : List Value) (T : TypeId) : Bx ((w.alloc (.cells x.toArray T)).alloc (.cells y.toArray T)) w.heap.size x ∧ Bx ((w.alloc (.cells x.toArray T)).alloc (.cells y.toArray T)) (w.heap.size + 1) y := by
  refine ⟨bx_alloc (bx_new w _ _) _, ?_⟩
  have q := bx_new (w.alloc (.cells x.toArray T)) y T
  rw [World.size_alloc] at q
  exact q
set_option maxRecDepth 100000 in
set_option maxHeartbeats 16000000 in
theorem l_Centres4 (s s' : ByteArray) (A A' B B' : Option Addr) (n n' m m' cA cA' cB cB' : Nat) (f f' dx dy dz : Int) (w : World) (hg : grL s n m = false) (hg' : grL s' n' m' = false) (M X Y Z c1 c2 c3 l1 l2 l3 k1 k2 k3 M' X' Y' Z' E' : Int) (hM : 1 ≤ M) (hc : (l1 ≤ c1 ∧ c1 ≤ k1) ∧ (l2 ≤ c2 ∧ c2 ≤ k2) ∧ (l3 ≤ c3 ∧ c3 ≤ k3)) (hw2 : IntKind.i64.wrap (2 * M) = 2 * M) (hwn : IntKind.i64.wrap (-Y) = -Y) (HM : Hid (∀ W, Up w W → Calls Try.prog 27 #[loV s A n cA B m cB f] W fun e w' => e = .returned (.tuple #[.int .i64 M, .int .i64 0]) ∧ Up W w')) (HO : Hid (∀ W, Up w W → Calls Try.prog 28 #[loV s A n cA B m cB f] W fun e w' => e = .returned (.tuple #[.agg #[.int .i64 X, .int .i64 Y, .int .i64 Z], .int .i64 0]) ∧ Up W w')) (HC : Hid (∀ W, Up w W → Calls Try.prog 29 #[loV s A n cA B m cB f] W fun e w' => e = .returned (.tuple #[.agg #[.int .i64 c1, .int .i64 c2, .int .i64 c3], .int .i64 0]) ∧ Up W w')) (HV : Hid (∀ W, Up w W → Calls Try.prog 30 #[loV s A n cA B m cB f] W fun e w' => e = .returned (.tuple #[.agg #[.int .i64 l1, .int .i64 l2, .int .i64 l3], .agg #[.int .i64 k1, .int .i64 k2, .int .i64 k3], .int .i64 0]) ∧ Up W w')) (HT : Hid (∀ W, Up w W → Calls Try.prog 11 #[loV s A n cA B m cB f, .int .i64 1] W fun e w' => (∃ P c G d, e = .returned (.tuple #[loV s P n c G m d f, .int .i64 0]) ∧ Hid (∀ W2, Up w' W2 → Calls Try.prog 28 #[loV s P n c G m d f] W2 fun e w3 => e = .returned (.tuple #[.agg #[.int .i64 (-Y), .int .i64 X, .int .i64 Z], .int .i64 0]) ∧ Up W2 w3)) ∧ Up W w')) (HS : Hid (∀ W, Up w W → Calls Try.prog 13 #[loV s A n cA B m cB f, .int .i64 dx, .int .i64 dy, .int .i64 dz] W fun e w' => (∃ t P k c G l d g q, e = .returned (.tuple #[loV t P k c G l d g, .int .i64 q]) ∧ Hid (q = 0 → ((IntKind.i64.wrap (2 * M * dx) = 2 * M * dx ∧ IntKind.i64.wrap (2 * M * dy) = 2 * M * dy ∧ IntKind.i64.wrap (2 * M * dz) = 2 * M * dz) ∧ IntKind.i64.wrap (X + 2 * M * dx) = X + 2 * M * dx ∧ IntKind.i64.wrap (Y + 2 * M * dy) = Y + 2 * M * dy ∧ IntKind.i64.wrap (Z + 2 * M * dz) = Z + 2 * M * dz) ∧ ∀ W2, Up w' W2 → Calls Try.prog 28 #[loV t P k c G l d g] W2 fun e w3 => e = .returned (.tuple #[.agg #[.int .i64 (X + 2 * M * dx), .int .i64 (Y + 2 * M * dy), .int .i64 (Z + 2 * M * dz)], .int .i64 0]) ∧ Up W2 w3)) ∧ Up W w')) (HJ : Hid (∀ W, Up w W → Calls Try.prog 15 #[loV s A n cA B m cB f, loV s' A' n' cA' B' m' cB' f'] W fun e w' => (∃ t P k c G l d g q, e = .returned (.tuple #[loV t P k c G l d g, .int .i64 q]) ∧ Hid (q = 0 → ((IntKind.i64.wrap (M + M') = M + M' ∧ IntKind.i64.wrap (X + X') = X + X' ∧ IntKind.i64.wrap (Y + Y') = Y + Y' ∧ IntKind.i64.wrap (Z + Z') = Z + Z') ∧ E' = 0) ∧ (∀ W2, Up w' W2 → Calls Try.prog 27 #[loV t P k c G l d g] W2 fun e w3 => e = .returned (.tuple #[.int .i64 (M + M'), .int .i64 0]) ∧ Up W2 w3) ∧ ∀ W2, Up w' W2 → Calls Try.prog 28 #[loV t P k c G l d g] W2 fun e w3 => e = .returned (.tuple #[.agg #[.int .i64 (X + X'), .int .i64 (Y + Y'), .int .i64 (Z + Z')], .int .i64 0]) ∧ Up W2 w3)) ∧ Up W w')) (HM' : Hid (∀ W, Up w W → Calls Try.prog 27 #[loV s' A' n' cA' B' m' cB' f'] W fun e w' => e = .returned (.tuple #[.int .i64 M', .int .i64 E']) ∧ Up W w')) (HO' : Hid (∀ W, Up w W → Calls Try.prog 28 #[loV s' A' n' cA' B' m' cB' f'] W fun e w' => e = .returned (.tuple #[.agg #[.int .i64 X', .int .i64 Y', .int .i64 Z'], .int .i64 E']) ∧ Up W w')) :
    Calls Try.prog 7 #[loV s A n cA B m cB f, loV s' A' n' cA' B' m' cB' f', .int .i64 dx, .int .i64 dy, .int .i64 dz] w fun e w' => e = .returned (.bool true) ∧ Up w w' := by
  have HG1 := hide (fun W => p_greatL s A n cA B m cB f W)
  have HG2 := hide (fun W => p_greatL s' A' n' cA' B' m' cB' f' W)
  have HK := hide (fun W => p_knownL W)
  rw [hg] at HG1
  rw [hg'] at HG2
  have e3 := fun a b c W => eqL3_same a b c W
  have HHw := hide (⟨hw2, hwn⟩ : _ ∧ _)
  have HHc := hide hc
  clear hg hg' hw2 hwn hc
  go_enter Try.func7, Try.ntmps7
  go_upto_region 1 with fail
  refine at_wpC (fun W0 hW0 => ?_)
  have h0 : LcB [.string s, .slice A n cA, .slice B m cB, .int .i64 f] [.string s', .slice A' n' cA', .slice B' m' cB', .int .i64 f'] w W0 := by rw [hW0]; exact LcB.start _ _ _ _
  clear hW0
  have c0 := (h0.1 0 _ rfl).1
  have c1 := (h0.1 1 _ rfl).1
  have c2 := (h0.1 2 _ rfl).1
  have c3 := (h0.1 3 _ rfl).1
  go_upto_region 3 with (first
    | (go_at_call 8; (with_reducible refine (unhide HG1 _).mono ?_); rintro e w1 ⟨rfl, u1⟩; have h1 := h0.ups u1; have d0 := (h1.2.1 0 _ rfl).1; have d1 := (h1.2.1 1 _ rfl).1; have d2 := (h1.2.1 2 _ rfl).1; have d3 := (h1.2.1 3 _ rfl).1)
    | (go_at_call 8; (with_reducible refine (unhide HG2 _).mono ?_); rintro e w2 ⟨rfl, u2⟩; have h2 := h1.ups u2; have x0 := (h2.1 0 _ rfl).1; have x1 := (h2.1 1 _ rfl).1; have x2 := (h2.1 2 _ rfl).1; have x3 := (h2.1 3 _ rfl).1))
  clear c0 c1 c2 c3 d0 d1 d2 d3 u1 u2 h0 h1 HG1 HG2
  go_upto_region 4 with (go_at_call 27; (with_reducible refine (unhide HM _ h2.up).mono ?_); rintro e w3 ⟨rfl, u3⟩; have h3 := h2.ups u3)
  clear x0 x1 x2 x3 h2 u3
  have x0 := (h3.1 0 _ rfl).1
  have x1 := (h3.1 1 _ rfl).1
  have x2 := (h3.1 2 _ rfl).1
  have x3 := (h3.1 3 _ rfl).1
  go_upto_region 5 with (go_at_call 28; (with_reducible refine (unhide HO _ h3.up).mono ?_); rintro e w4 ⟨rfl, u4⟩)
  refine at_wpC (fun W4 hW4 => ?_)
  have u34 : Up w3 W4 := by rw [hW4]; exact (by repeat' (first | (with_reducible exact up_refl _) | (with_reducible assumption) | (with_reducible refine up_alloc ?_ _) | (with_reducible refine up_drewN ?_ _) | (with_reducible refine up_drew ?_) | (with_reducible refine up_set ?_ (by first | (simp; done) | (simp; omega) | omega) _) | (refine up_trans ?_ (by with_reducible assumption))))
  have bA : Bx W4 w4.heap.size [.int .i64 X, .int .i64 Y, .int .i64 Z] := by rw [hW4]; exact bx_new w4 _ _
  have h4 := h3.ups u34
  clear hW4 u4 u34 x0 x1 x2 x3 h3 HO HM
  generalize w4.heap.size = gA at *
  have x0 := (h4.1 0 _ rfl).1
  have x1 := (h4.1 1 _ rfl).1
  have x2 := (h4.1 2 _ rfl).1
  have x3 := (h4.1 3 _ rfl).1
  go_upto_region 8 with (go_at_call 29; (with_reducible refine (unhide HC _ h4.up).mono ?_); rintro e w5 ⟨rfl, u5⟩)
  refine at_wpC (fun W5 hW5 => ?_)
  have u45 : Up W4 W5 := by rw [hW5]; exact (by repeat' (first | (with_reducible exact up_refl _) | (with_reducible assumption) | (with_reducible refine up_alloc ?_ _) | (with_reducible refine up_drewN ?_ _) | (with_reducible refine up_drew ?_) | (with_reducible refine up_set ?_ (by first | (simp; done) | (simp; omega) | omega) _) | (refine up_trans ?_ (by with_reducible assumption))))
  have bC : Bx W5 w5.heap.size [.int .i64 c1, .int .i64 c2, .int .i64 c3] := by rw [hW5]; exact bx_new w5 _ _
  have h5 := h4.ups u45
  have bA5 := bx_up bA u45
  clear hW5 u5 u45 x0 x1 x2 x3 h4 bA HC
  generalize w5.heap.size = gC at *
  have x0 := (h5.1 0 _ rfl).1
  have x1 := (h5.1 1 _ rfl).1
  have x2 := (h5.1 2 _ rfl).1
  have x3 := (h5.1 3 _ rfl).1
  go_upto_region 9 with (go_at_call 30; (with_reducible refine (unhide HV _ h5.up).mono ?_); rintro e w6 ⟨rfl, u6⟩)
  refine at_wpC (fun W6 hW6 => ?_)
  have u56 : Up W5 W6 := by rw [hW6]; exact (by repeat' (first | (with_reducible exact up_refl _) | (with_reducible assumption) | (with_reducible refine up_alloc ?_ _) | (with_reducible refine up_drewN ?_ _) | (with_reducible refine up_drew ?_) | (with_reducible refine up_set ?_ (by first | (simp; done) | (simp; omega) | omega) _) | (refine up_trans ?_ (by with_reducible assumption))))
  obtain ⟨bL, bK⟩ : Bx W6 w6.heap.size [.int .i64 l1, .int .i64 l2, .int .i64 l3] ∧ Bx W6 (w6.heap.size + 1) [.int .i64 k1, .int .i64 k2, .int .i64 k3] := by rw [hW6]; exact bx_two (wx := w6) _ _ _
  have h6 := h5.ups u56
  have bA6 := bx_up bA5 u56
  have bC6 := bx_up bC u56
  clear hW6 u6 u56 x0 x1 x2 x3 h5 bA5 bC HV
  generalize w6.heap.size + 1 = gK at *
  generalize w6.heap.size = gL at *
  have hM' : ¬ M < 1 := by omega
  go_upto_region 12 with fail
  clear hM' hM
  go_loopw [10, 20] (fun s10 s20 wx => s10 = .bool false ∧ ∃ J : Int, (J = 0 ∨ J = 1 ∨ J = 2 ∨ J = 3) ∧ s20 = .int .i64 J ∧ Up W6 wx) (fun _ s20 _ => 3 - (intOf s20).toNat)
  case atStart => exact ⟨rfl, 0, .inl rfl, rfl, up_refl _⟩
  case round =>
    obtain ⟨rfl, J, hJ, rfl, hu⟩ := hrel
    have bLr := bx_up bL hu
    have bKr := bx_up bK hu
    have bCr := bx_up bC6 hu
    rcases hJ with rfl | rfl | rfl | rfl
    · have q0 : ∀ p : UpW wr, p.v.cell? ⟨gC, 0, none⟩ = some (.int .i64 c1) := fun p => up_cell p.up (bCr 0 _ rfl).1
      have q1 : ∀ p : UpW wr, p.v.cell? ⟨gL, 0, none⟩ = some (.int .i64 l1) := fun p => up_cell p.up (bLr 0 _ rfl).1
      have q2 : ∀ p : UpW wr, p.v.cell? ⟨gK, 0, none⟩ = some (.int .i64 k1) := fun p => up_cell p.up (bKr 0 _ rfl).1
      obtain ⟨⟨t1, t2⟩, ⟨t3, t4⟩, t5, t6⟩ := unhide HHc
      have t7 : ¬ c1 < l1 := by omega
      have t8 : ¬ k1 < c1 := by omega
      clear t1 t2 t3 t4 t5 t6
      go_upto_region 14 with fail
      refine wp_upq (by kernel_rfl) (by kernel_rfl) ?_; (repeat (go_big_quiet_step (fail))); refine wpQuiet_nil ?_; intro _ hw'; obtain ⟨pq, hw''⟩ := hw'; subst hw''; have hpq := pq.up
      generalize pq.v = W7 at hpq ⊢
      clear q0 q1 q2
      go_wp2_with fail
      go_roundw
      case rel => exact ⟨rfl, 1, by decide, by first | rfl | trivial | go_num, up_trans hu hpq⟩
      case measure => first | (simp [intOf]; done) | (simp [intOf]; omega)
    · have q0 : ∀ p : UpW wr, p.v.cell? ⟨gC, 1, none⟩ = some (.int .i64 c2) := fun p => up_cell p.up (bCr 1 _ rfl).1
      have q1 : ∀ p : UpW wr, p.v.cell? ⟨gL, 1, none⟩ = some (.int .i64 l2) := fun p => up_cell p.up (bLr 1 _ rfl).1
      have q2 : ∀ p : UpW wr, p.v.cell? ⟨gK, 1, none⟩ = some (.int .i64 k2) := fun p => up_cell p.up (bKr 1 _ rfl).1
      obtain ⟨⟨t1, t2⟩, ⟨t3, t4⟩, t5, t6⟩ := unhide HHc
      have t7 : ¬ c2 < l2 := by omega
      have t8 : ¬ k2 < c2 := by omega
      clear t1 t2 t3 t4 t5 t6
      go_upto_region 14 with fail
      refine wp_upq (by kernel_rfl) (by kernel_rfl) ?_; (repeat (go_big_quiet_step (fail))); refine wpQuiet_nil ?_; intro _ hw'; obtain ⟨pq, hw''⟩ := hw'; subst hw''; have hpq := pq.up
      generalize pq.v = W7 at hpq ⊢
      clear q0 q1 q2
      go_wp2_with fail
      go_roundw
      case rel => exact ⟨rfl, 2, by decide, by first | rfl | trivial | go_num, up_trans hu hpq⟩
      case measure => first | (simp [intOf]; done) | (simp [intOf]; omega)
    · have q0 : ∀ p : UpW wr, p.v.cell? ⟨gC, 2, none⟩ = some (.int .i64 c3) := fun p => up_cell p.up (bCr 2 _ rfl).1
      have q1 : ∀ p : UpW wr, p.v.cell? ⟨gL, 2, none⟩ = some (.int .i64 l3) := fun p => up_cell p.up (bLr 2 _ rfl).1
      have q2 : ∀ p : UpW wr, p.v.cell? ⟨gK, 2, none⟩ = some (.int .i64 k3) := fun p => up_cell p.up (bKr 2 _ rfl).1
      obtain ⟨⟨t1, t2⟩, ⟨t3, t4⟩, t5, t6⟩ := unhide HHc
      have t7 : ¬ c3 < l3 := by omega
      have t8 : ¬ k3 < c3 := by omega
      clear t1 t2 t3 t4 t5 t6
      go_upto_region 14 with fail
      refine wp_upq (by kernel_rfl) (by kernel_rfl) ?_; (repeat (go_big_quiet_step (fail))); refine wpQuiet_nil ?_; intro _ hw'; obtain ⟨pq, hw''⟩ := hw'; subst hw''; have hpq := pq.up
      generalize pq.v = W7 at hpq ⊢
      clear q0 q1 q2
      go_wp2_with fail
      go_roundw
      case rel => exact ⟨rfl, 3, by decide, by first | rfl | trivial | go_num, up_trans hu hpq⟩
      case measure => first | (simp [intOf]; done) | (simp [intOf]; omega)
    · have h7 := h6.ups hu
      have bA7 := bx_up bA6 hu
      obtain ⟨wo, rfl⟩ : ∃ wo, wo = wr := ⟨_, rfl⟩
      clear bLr bKr bCr bL bK bC6 h6 bA6 hu HHc
      have x0 := (h7.1 0 _ rfl).1
      have x1 := (h7.1 1 _ rfl).1
      have x2 := (h7.1 2 _ rfl).1
      have x3 := (h7.1 3 _ rfl).1
      go_upto_region 17 with (go_at_call 11; (with_reducible refine (unhide HT _ h7.up).mono ?_); rintro e w8 ⟨⟨P, c, G, d, rfl, HOt⟩, u8⟩)
      refine at_wpC (fun W8 hW8 => ?_)
      have u78 : Up w8 W8 := by rw [hW8]; exact (by repeat' (first | (with_reducible exact up_refl _) | (with_reducible assumption) | (with_reducible refine up_alloc ?_ _) | (with_reducible refine up_drewN ?_ _) | (with_reducible refine up_drew ?_) | (with_reducible refine up_set ?_ (by first | (simp; done) | (simp; omega) | omega) _) | (refine up_trans ?_ (by with_reducible assumption))))
      have bT : Bx W8 w8.heap.size [.string s, .slice P n c, .slice G m d, .int .i64 f] := by rw [hW8]; exact bx_new w8 _ _
      have u98 := up_trans u8 u78
      have h8 := h7.ups u98
      have bA8 := bx_up bA7 u98
      have HOt8 := hide (unhide HOt W8 u78)
      clear hW8 u8 u78 u98 x0 x1 x2 x3 h7 bA7 HT HOt
      generalize w8.heap.size = gT at *
      have x0 := (bT 0 _ rfl).1
      have x1 := (bT 1 _ rfl).1
      have x2 := (bT 2 _ rfl).1
      have x3 := (bT 3 _ rfl).1
      go_upto_region 19 with (go_at_call 28; (with_reducible refine (unhide HOt8).mono ?_); rintro e w9 ⟨rfl, u9⟩)
      refine at_wpC (fun W9 hW9 => ?_)
      have u89 : Up W8 W9 := by rw [hW9]; exact (by repeat' (first | (with_reducible exact up_refl _) | (with_reducible assumption) | (with_reducible refine up_alloc ?_ _) | (with_reducible refine up_drewN ?_ _) | (with_reducible refine up_drew ?_) | (with_reducible refine up_set ?_ (by first | (simp; done) | (simp; omega) | omega) _) | (refine up_trans ?_ (by with_reducible assumption))))
      have bN : Bx W9 w9.heap.size [.int .i64 (-Y), .int .i64 X, .int .i64 Z] := by rw [hW9]; exact bx_new w9 _ _
      have h9 := h8.ups u89
      have bA9 := bx_up bA8 u89
      clear hW9 u9 u89 x0 x1 x2 x3 h8 bA8 HOt8 bT
      generalize w9.heap.size = gN at *
      have n0 := (bN 0 _ rfl).1
      have n1 := (bN 1 _ rfl).1
      have n2 := (bN 2 _ rfl).1
      have a0 := (bA9 0 _ rfl).1
      have a1 := (bA9 1 _ rfl).1
      have a2 := (bA9 2 _ rfl).1
      have x0 := (h9.1 0 _ rfl).1
      have x1 := (h9.1 1 _ rfl).1
      have x2 := (h9.1 2 _ rfl).1
      have x3 := (h9.1 3 _ rfl).1
      have hwn := (unhide HHw).2
      go_upto_region 22 with (go_at_call 13; (with_reducible refine (unhide HS _ h9.up).mono ?_); rintro e w10 ⟨⟨t, P2, k, c', G2, l, d', g, q, rfl, HOs⟩, u10⟩)
      refine at_wpC (fun W10 hW10 => ?_)
      have u910 : Up w10 W10 := by rw [hW10]; exact (by repeat' (first | (with_reducible exact up_refl _) | (with_reducible assumption) | (with_reducible refine up_alloc ?_ _) | (with_reducible refine up_drewN ?_ _) | (with_reducible refine up_drew ?_) | (with_reducible refine up_set ?_ (by first | (simp; done) | (simp; omega) | omega) _) | (refine up_trans ?_ (by with_reducible assumption))))
      have bS : Bx W10 w10.heap.size [.string t, .slice P2 k c', .slice G2 l d', .int .i64 g] := by rw [hW10]; exact bx_new w10 _ _
      have u99 := up_trans u10 u910
      have h10 := h9.ups u99
      have bA10 := bx_up bA9 u99
      have HOs10 := hide (fun e => And.intro (unhide HOs e).1 ((unhide HOs e).2 W10 u910))
      clear hW10 u10 u910 u99 x0 x1 x2 x3 n0 n1 n2 a0 a1 a2 h9 bA9 bN HS HOs hwn
      generalize w10.heap.size = gS at *
      go_upto_if 141 with fail
      go_cut [10] (fun s wx => s = .bool false ∧ Up W10 wx)
      case first => as_aux_lemma =>
        by_cases hq : q = 0
        · subst hq
          obtain ⟨⟨⟨p1, p2, p3⟩, p4, p5, p6⟩, HMo⟩ := unhide HOs10 rfl
          have hw2 := (unhide HHw).1
          have x0 := (bS 0 _ rfl).1
          have x1 := (bS 1 _ rfl).1
          have x2 := (bS 2 _ rfl).1
          have x3 := (bS 3 _ rfl).1
          have HMo := hide HMo
          have HP := hide (⟨p1, p2, p3, p4, p5, p6⟩ : _ ∧ _ ∧ _ ∧ _ ∧ _ ∧ _)
          clear p1 p2 p3 p4 p5 p6
          go_upto_region 24 with (go_at_call 28; (with_reducible refine (unhide HMo).mono ?_); rintro e w11 ⟨rfl, u11⟩)
          refine at_wpC (fun W11 hW11 => ?_)
          have u11' : Up W10 W11 := by rw [hW11]; exact (by repeat' (first | (with_reducible exact up_refl _) | (with_reducible assumption) | (with_reducible refine up_alloc ?_ _) | (with_reducible refine up_drewN ?_ _) | (with_reducible refine up_drew ?_) | (with_reducible refine up_set ?_ (by first | (simp; done) | (simp; omega) | omega) _) | (refine up_trans ?_ (by with_reducible assumption))))
          have bN : Bx W11 w11.heap.size [.int .i64 (X + 2 * M * dx), .int .i64 (Y + 2 * M * dy), .int .i64 (Z + 2 * M * dz)] := by rw [hW11]; exact bx_new w11 _ _
          have bA11 := bx_up bA10 u11'
          clear hW11 u11 x0 x1 x2 x3 HMo
          generalize w11.heap.size = gN at *
          obtain ⟨p1, p2, p3, p4, p5, p6⟩ := unhide HP
          have n0 := (bN 0 _ rfl).1
          have n1 := (bN 1 _ rfl).1
          have n2 := (bN 2 _ rfl).1
          have a0 := (bA11 0 _ rfl).1
          have a1 := (bA11 1 _ rfl).1
          have a2 := (bA11 2 _ rfl).1
          go_wp2_with fail
          go_meet
          exact ⟨rfl, u11'⟩
        · have t0 : (q == 0) = false := by simp [hq]
          go_wp2_with fail
          go_meet
          exact ⟨rfl, up_refl _⟩
      case rest =>
        obtain ⟨rfl, u11⟩ := hcut
        obtain ⟨W11, rfl⟩ : ∃ z : World, z = wc := ⟨_, rfl⟩
        have h11 := h10.ups u11
        have bA11 := bx_up bA10 u11
        clear h10 bA10 bS HOs10 u11
        have x0 := (h11.1 0 _ rfl).1
        have x1 := (h11.1 1 _ rfl).1
        have x2 := (h11.1 2 _ rfl).1
        have x3 := (h11.1 3 _ rfl).1
        have y0 := (h11.2.1 0 _ rfl).1
        have y1 := (h11.2.1 1 _ rfl).1
        have y2 := (h11.2.1 2 _ rfl).1
        have y3 := (h11.2.1 3 _ rfl).1
        go_upto_region 27 with (go_at_call 15; (with_reducible refine (unhide HJ _ h11.up).mono ?_); rintro e w12 ⟨⟨t, P3, k, c', G3, l, d', g, q, rfl, HOj⟩, u12⟩)
        refine at_wpC (fun W12 hW12 => ?_)
        have u112 : Up w12 W12 := by rw [hW12]; exact (by repeat' (first | (with_reducible exact up_refl _) | (with_reducible assumption) | (with_reducible refine up_alloc ?_ _) | (with_reducible refine up_drewN ?_ _) | (with_reducible refine up_drew ?_) | (with_reducible refine up_set ?_ (by first | (simp; done) | (simp; omega) | omega) _) | (refine up_trans ?_ (by with_reducible assumption))))
        have bJ : Bx W12 w12.heap.size [.string t, .slice P3 k c', .slice G3 l d', .int .i64 g] := by rw [hW12]; exact bx_new w12 _ _
        have u99 := up_trans u12 u112
        have h12 := h11.ups u99
        have bA12 := bx_up bA11 u99
        have HOj12 := hide (fun e => And.intro (unhide HOj e).1 (And.intro (fun W hW => (unhide HOj e).2.1 W (up_trans u112 hW)) ((unhide HOj e).2.2 W12 u112)))
        clear hW12 u12 u112 u99 x0 x1 x2 x3 y0 y1 y2 y3 h11 bA11 HJ HOj
        generalize w12.heap.size = gJ at *
        go_upto_if 182 with fail
        go_cut [10] (fun s wx => s = .bool false ∧ Up W12 wx)
        case first => as_aux_lemma =>
          by_cases hq : q = 0
          · subst hq
            obtain ⟨⟨⟨p0, p1, p2, p3⟩, hE'⟩, HMm, HMo⟩ := unhide HOj12 rfl
            subst hE'
            have x0 := (bJ 0 _ rfl).1
            have x1 := (bJ 1 _ rfl).1
            have x2 := (bJ 2 _ rfl).1
            have x3 := (bJ 3 _ rfl).1
            have HMo := hide HMo
            have HMm := hide HMm
            have HP := hide (⟨p0, p1, p2, p3⟩ : _ ∧ _ ∧ _ ∧ _)
            clear p0 p1 p2 p3
            go_upto_region 29 with (go_at_call 28; (with_reducible refine (unhide HMo).mono ?_); rintro e w13 ⟨rfl, u13⟩)
            refine at_wpC (fun W13 hW13 => ?_)
            have v13 : Up W12 W13 := by rw [hW13]; exact (by repeat' (first | (with_reducible exact up_refl _) | (with_reducible assumption) | (with_reducible refine up_alloc ?_ _) | (with_reducible refine up_drewN ?_ _) | (with_reducible refine up_drew ?_) | (with_reducible refine up_set ?_ (by first | (simp; done) | (simp; omega) | omega) _) | (refine up_trans ?_ (by with_reducible assumption))))
            have bN : Bx W13 w13.heap.size [.int .i64 (X + X'), .int .i64 (Y + Y'), .int .i64 (Z + Z')] := by rw [hW13]; exact bx_new w13 _ _
            have h13 := h12.ups v13
            clear hW13 u13 x0 x1 x2 x3 HMo
            generalize w13.heap.size = gN at *
            have y0 := (h13.2.1 0 _ rfl).1
            have y1 := (h13.2.1 1 _ rfl).1
            have y2 := (h13.2.1 2 _ rfl).1
            have y3 := (h13.2.1 3 _ rfl).1
            go_upto_region 30 with (go_at_call 28; (with_reducible refine (unhide HO' _ h13.up).mono ?_); rintro e w14 ⟨rfl, u14⟩)
            refine at_wpC (fun W14 hW14 => ?_)
            have v14 : Up W13 W14 := by rw [hW14]; exact (by repeat' (first | (with_reducible exact up_refl _) | (with_reducible assumption) | (with_reducible refine up_alloc ?_ _) | (with_reducible refine up_drewN ?_ _) | (with_reducible refine up_drew ?_) | (with_reducible refine up_set ?_ (by first | (simp; done) | (simp; omega) | omega) _) | (refine up_trans ?_ (by with_reducible assumption))))
            have bO : Bx W14 w14.heap.size [.int .i64 X', .int .i64 Y', .int .i64 Z'] := by rw [hW14]; exact bx_new w14 _ _
            have h14 := h13.ups v14
            have bN14 := bx_up bN v14
            have v24 := up_trans v13 v14
            clear hW14 u14 y0 y1 y2 y3 h13 bN v13 v14
            generalize w14.heap.size = gO at *
            have bJ14 := bx_up bJ v24
            have bA14 := bx_up bA12 v24
            have x0 := (bJ14 0 _ rfl).1
            have x1 := (bJ14 1 _ rfl).1
            have x2 := (bJ14 2 _ rfl).1
            have x3 := (bJ14 3 _ rfl).1
            go_upto_region 31 with (go_at_call 27; (with_reducible refine (unhide HMm _ v24).mono ?_); rintro e w15 ⟨rfl, u15⟩)
            have h15 := h14.ups u15
            clear x0 x1 x2 x3 h14
            have y0 := (h15.2.1 0 _ rfl).1
            have y1 := (h15.2.1 1 _ rfl).1
            have y2 := (h15.2.1 2 _ rfl).1
            have y3 := (h15.2.1 3 _ rfl).1
            go_upto_region 32 with (go_at_call 27; (with_reducible refine (unhide HM' _ h15.up).mono ?_); rintro e w16 ⟨rfl, u16⟩)
            have u17 := up_trans u15 u16
            have bA16 := bx_up bA14 u17
            have bN16 := bx_up bN14 u17
            have bO16 := bx_up bO u17
            clear y0 y1 y2 y3 h15 bA14 bN14 bO
            obtain ⟨p0, p1, p2, p3⟩ := unhide HP
            have n0 := (bN16 0 _ rfl).1
            have n1 := (bN16 1 _ rfl).1
            have n2 := (bN16 2 _ rfl).1
            have o0 := (bO16 0 _ rfl).1
            have o1 := (bO16 1 _ rfl).1
            have o2 := (bO16 2 _ rfl).1
            have a0 := (bA16 0 _ rfl).1
            have a1 := (bA16 1 _ rfl).1
            have a2 := (bA16 2 _ rfl).1
            go_wp2_with fail
            go_meet
            exact ⟨rfl, up_trans v24 u17⟩
          · have t0 : (q == 0) = false := by simp [hq]
            go_wp2_with fail
            go_meet
            exact ⟨rfl, up_refl _⟩
        case rest =>
          obtain ⟨rfl, u13⟩ := hcut
          obtain ⟨W13, rfl⟩ : ∃ z : World, z = wc := ⟨_, rfl⟩
          have h13 := h12.ups u13
          clear h12 bA12 bJ HOj12 u13
          go_wp2_with (go_at_call 9; (with_reducible refine (unhide HK _).mono ?_); rintro e w14 ⟨rfl, u14⟩)
          go_ret
          exact ⟨rfl, up_trans h13.2.2 u14⟩
theorem l_Centres (s : ByteArray) (A : Option Addr) (ps : List Pce) (cA : Nat) (B : Option Addr) (ys : List Eye) (cB : Nat) (f : Int) (s' : ByteArray) (A' : Option Addr) (qs : List Pce) (cA' : Nat) (B' : Option Addr) (zs : List Eye) (cB' : Nat) (f' dx dy dz : Int) (w : World)
    (hA : Pcs w A ps) (hB : Eyes w B ys) (hA' : Pcs w A' qs) (hB' : Eyes w B' zs) (hn : ps.length ≤ 9223372036854775807) (hm : ys.length ≤ 9223372036854775807) (hn' : qs.length ≤ 9223372036854775807) (hm' : zs.length ≤ 9223372036854775807) :
    Calls Try.prog 7 #[loV s A ps.length cA B ys.length cB f, loV s' A' qs.length cA' B' zs.length cB' f', .int .i64 dx, .int .i64 dy, .int .i64 dz] w fun e w' => e = .returned (.bool true) ∧ Up w w' := by
  cases hg : grL s ps.length ys.length
  · cases hg' : grL s' qs.length zs.length
    · by_cases hE : loE s ps ys f = 0
      · have hb : ps.length ≤ 40 ∧ ys.length ≤ 40 ∧ qs.length ≤ 40 ∧ zs.length ≤ 40 := by
          unfold grL at hg hg'
          simp only [Bool.or_eq_false_iff, decide_eq_false_iff_not] at hg hg'
          omega
        obtain ⟨_, _, _, _, _, hM1, hM2⟩ := loE_ok hE
        refine l_Centres4 s s' A A' B B' ps.length qs.length ys.length zs.length cA cA' cB cB' f f' dx dy dz w hg hg' (mas ps) (mo fX ps) (mo fY ps) (mo fZ ps) (loC s ps ys f fX) (loC s ps ys f fY) (loC s ps ys f fZ) (loN s ps ys f gX) (loN s ps ys f gY) (loN s ps ys f gZ) (loX s ps ys f hX) (loX s ps ys f hY) (loX s ps ys f hZ) (loM s' qs zs f') (loO s' qs zs f' fX) (loO s' qs zs f' fY) (loO s' qs zs f' fZ) (loE s' qs zs f') (by omega) ⟨ce_inX hE, ce_inY hE, ce_inZ hE⟩ (mas_two hE) (mo_neg fY_bd hE) ?_ ?_ ?_ ?_ ?_ ?_ ?_ ?_ ?_
        · exact hide fun W hW => s_Mass s A ps cA B ys cB f W (pcs_up hA hW) (eyes_up hB hW) hE
        · exact hide fun W hW => s_Moments s A ps cA B ys cB f W (pcs_up hA hW) (eyes_up hB hW) hE
        · exact hide fun W hW => by
            have q := p_CentreL s A ps cA B ys cB f W (pcs_up hA hW) (eyes_up hB hW) hn hm
            rw [hE] at q
            exact q
        · exact hide fun W hW => p_EnvelopeL s A ps cA B ys cB f W (pcs_up hA hW) (eyes_up hB hW) hn hm hE
        · exact hide fun W hW => (p_TurnedA s A ps cA B ys cB f W (pcs_up hA hW) (eyes_up hB hW) hE).mono fun e w' ⟨⟨P, c, G, d, he, hp, hy⟩, hu⟩ => ⟨⟨P, c, G, d, he, hide fun W2 hW2 => by
            have q := s_Moments s P (ps.map trP) c G (ys.map tyP) d f W2 (pcs_up hp hW2) (eyes_up hy hW2) (by rw [lo_trA]; exact hE)
            rw [List.length_map, List.length_map, moX_tr, moY_tr, moZ_tr] at q
            exact q⟩, hu⟩
        · exact hide fun W hW => (s_Shifted s A ps cA B ys cB f dx dy dz W (pcs_up hA hW) (eyes_up hB hW) hE).mono fun e w' ⟨⟨t, P, k, c, G, l, d, g, q, he, h1, h2⟩, hu⟩ => ⟨⟨t, P, k, c, G, l, d, g, q, he, hide fun h0 => by
            obtain ⟨rfl, rfl, rfl, rfl, ⟨⟨a1, a2, a3⟩, h4⟩⟩ := h1 h0
            refine ⟨⟨⟨(mas_times hE a1).2, (mas_times hE a2).2, (mas_times hE a3).2⟩, mo_plus fX_bd hE a1, mo_plus fY_bd hE a2, mo_plus fZ_bd hE a3⟩, fun W2 hW2 => ?_⟩
            obtain ⟨hp, hy⟩ := h2 h0 W2 hW2
            have q := s_Moments t P (ps.map (shP dx dy dz)) c G (ys.map (shY dx dy dz)) d g W2 hp hy h4
            rw [List.length_map, List.length_map, moX_sh, moY_sh, moZ_sh] at q
            exact q⟩, hu⟩
        · exact hide fun W hW => (s_Joined s s' A A' B B' ps qs ys zs cA cA' cB cB' f f' W (pcs_up hA hW) (pcs_up hA' hW) (eyes_up hB hW) (eyes_up hB' hW) (by omega) (by omega)).mono fun e w' ⟨⟨t, P, k, c, G, l, d, g, q, he, h1, h2⟩, hu⟩ => ⟨⟨t, P, k, c, G, l, d, g, q, he, hide fun h0 => by
            obtain ⟨rfl, rfl, rfl, rfl, _, h3, h4⟩ := h1 h0
            unfold loM loO
            simp only [h3, if_true]
            refine ⟨⟨⟨mas_plus hE h3, mo_two fX_bd hE h3, mo_two fY_bd hE h3, mo_two fZ_bd hE h3⟩, trivial⟩, fun W2 hW2 => ?_, fun W2 hW2 => ?_⟩
            · obtain ⟨hp, hy⟩ := h2 h0 W2 hW2
              have q := s_Mass t P (ps ++ qs) c G (ys ++ zs) d (min f f') W2 hp hy h4
              rw [mas_append] at q
              exact q
            · obtain ⟨hp, hy⟩ := h2 h0 W2 hW2
              have q := s_Moments t P (ps ++ qs) c G (ys ++ zs) d (min f f') W2 hp hy h4
              rw [mo_append, mo_append, mo_append] at q
              exact q⟩, hu⟩
        · exact hide fun W hW => p_MassL s' A' qs cA' B' zs cB' f' W (pcs_up hA' hW) (eyes_up hB' hW) hn' hm'
        · exact hide fun W hW => p_MomentsL s' A' qs cA' B' zs cB' f' W (pcs_up hA' hW) (eyes_up hB' hW) hn' hm'
      · exact l_Centres3 s s' A A' B B' ps.length qs.length ys.length zs.length cA cA' cB cB' f f' dx dy dz w hg hg' (loE s ps ys f) _ _ _ _ hE (hide fun W hW => p_MassL s A ps cA B ys cB f W (pcs_up hA hW) (eyes_up hB hW) hn hm) (hide fun W hW => p_MomentsL s A ps cA B ys cB f W (pcs_up hA hW) (eyes_up hB hW) hn hm)
    · exact l_Centres2 s s' A A' B B' ps.length qs.length ys.length zs.length cA cA' cB cB' f f' dx dy dz w hg hg'
  · exact l_Centres1 s s' A A' B B' ps.length qs.length ys.length zs.length cA cA' cB cB' f f' dx dy dz w hg
end Go.Proofs.Ytdehnokcjnbjoaa
