/- The hulls of two short lists of a law's small points. -/
import Derived.Test.YtihckoenfklhpaaHullOwn
import Derived.Test.YtihckoenfklhpaaFew
import Derived.Test.YtihckoenfklhpaaWorks
import Derived.Test.YtihckoenfklhpaaMeet
namespace Go.Proofs.Ytihckoenfklhpaa
open Go.RowKit Go.Proofs.Gn
theorem smalls_up2 {W W' : World} {A : Option Addr} {ps : Pl} (h : Smalls W A ps) (hu : Up W W') : Smalls W' A ps := by
  rcases h with rfl | ⟨b, off, hA, hc⟩
  · exact .inl rfl
  · exact .inr ⟨b, off, hA, fun k hk => ⟨up_cell hu (hc k hk).1, up_cell hu (hc k hk).2.1, (hc k hk).2.2⟩⟩
theorem smalls_bd2 {W : World} {A : Option Addr} {ps : Pl} (h : Smalls W A ps) : ∀ p ∈ ps, (-128 ≤ p.1 ∧ p.1 ≤ 127) ∧ (-128 ≤ p.2 ∧ p.2 ≤ 127) := by
  intro p hp
  rcases h with rfl | ⟨b, off, _, hc⟩
  · simp at hp
  · obtain ⟨k, hk, rfl⟩ := List.mem_iff_getElem.1 hp
    exact (hc k hk).2.2
theorem own_none2 {W : World} {base e : Nat} {v : Value} {xs : List Value} (h : W.ownsRow base e 2 v 0 xs) : ∃ A cap, v = .slice A 0 cap := by
  rcases h.2 with ⟨h1, _⟩ | ⟨g, cap, cur, h1, _⟩
  · exact ⟨_, _, h1⟩
  · exact ⟨_, _, h1⟩
theorem okL_small2 {qs : Pl} (h : ∀ p ∈ qs, (-128 ≤ p.1 ∧ p.1 ≤ 127) ∧ (-128 ≤ p.2 ∧ p.2 ≤ 127)) : okL qs = true := by
  refine List.all_eq_true.2 fun p hp => ?_
  have := h p hp
  unfold okp okc
  simp
  omega
theorem hv_few {qs : Pl} (h0 : 0 < qs.length) (hl : qs.length ≤ 8) (hb : ∀ p ∈ qs, (-128 ≤ p.1 ∧ p.1 ≤ 127) ∧ (-128 ≤ p.2 ∧ p.2 ≤ 127)) : HV (Gx.hullF qs) := by
  have hH := hullOf (List.ne_nil_of_length_pos h0)
  have hlen := hullF_len qs
  exact ⟨hH.poly, by omega, okL_sub hH.mem (okL_small2 hb)⟩
theorem l_few8 (A : Option Addr) (ps : Pl) (cap : Nat) (w : World) (h : Smalls w A ps) (hn : ps.length ≤ 9223372036854775807) {qs : Pl} (hq : ps.take 8 = qs) :
    Calls Try.prog 28 #[.slice A ps.length cap, .int .i64 8] w fun e w' => ∃ v, e = .returned v ∧ w'.ownsRow w.heap.size 24 2 v qs.length (cellsPl qs) ∧ Up w w' := by
  subst hq
  exact l_fewN 8 (by omega) A ps cap w h hn
theorem p_HullFew {qs : Pl} (h0 : 0 < qs.length) (hl : qs.length ≤ 8) (hb : ∀ p ∈ qs, (-128 ≤ p.1 ∧ p.1 ≤ 127) ∧ (-128 ≤ p.2 ∧ p.2 ≤ 127)) {B : Nat} {v : Value} {W : World} (ho : W.ownsRow B 24 2 v qs.length (cellsPl qs)) :
    Calls Try.prog 9 #[v] W fun e w' => ∃ g c, e = .returned (.tuple #[.slice (some ⟨g, 0, none⟩) (Gx.hullF qs).length c, .int .i64 0]) ∧ At w' g 0 c (Gx.hullF qs) ∧ Up W w' := by
  obtain ⟨A, cap, rfl, hp⟩ := own_pts ho
  refine (p_Hull A qs cap W hp h0 (by omega) (okL_small2 hb)).mono fun e w' ⟨v, he, ho', hu⟩ => ?_
  obtain ⟨g, c, rfl, _, h1, h2⟩ := own_some ho' (hv_few h0 hl hb).pos
  exact ⟨g, c, he, ⟨own_cells ho', h1, h2⟩, hu⟩
theorem p_HullOff {qs : Pl} (h0 : qs.length = 0) {B : Nat} {v : Value} {W : World} (ho : W.ownsRow B 24 2 v qs.length (cellsPl qs)) :
    Calls Try.prog 9 #[v] W fun e w' => e = .returned (.tuple #[.slice none 0 0, .int .i64 5]) ∧ Up W w' := by
  rw [h0] at ho
  obtain ⟨A, cap, rfl⟩ := own_none2 ho
  exact p_HullNone A cap W
/-- Whatever the list is: a hull, or 5. -/
theorem p_HullAny {qs : Pl} (hl : qs.length ≤ 8) (hb : ∀ p ∈ qs, (-128 ≤ p.1 ∧ p.1 ≤ 127) ∧ (-128 ≤ p.2 ∧ p.2 ≤ 127)) {B : Nat} {v : Value} {W : World} (ho : W.ownsRow B 24 2 v qs.length (cellsPl qs)) :
    Calls Try.prog 9 #[v] W fun e w' => ∃ v n, e = .returned (.tuple #[v, .int .i64 n]) ∧ Up W w' := by
  rcases Nat.eq_zero_or_pos qs.length with c | c
  · exact (p_HullOff c ho).mono fun e w' ⟨he, hu⟩ => ⟨_, _, he, hu⟩
  · exact (p_HullFew c hl hb ho).mono fun e w' ⟨g, k, he, _, hu⟩ => ⟨_, _, he, hu⟩
end Go.Proofs.Ytihckoenfklhpaa
