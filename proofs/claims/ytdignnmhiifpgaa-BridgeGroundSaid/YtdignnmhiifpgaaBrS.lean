/- Where a span begins. -/
import Derived.Test.YtdignnmhiifpgaaBrKC
namespace Go.Proofs.Ytdignnmhiifpgaa
open Go.RowKit Go.Proofs.Gn
set_option linter.unusedVariables false
/-- The lengths of the first spans together. -/
def beS (l : List Int) : Nat → Int
  | 0 => 0
  | k + 1 => beS l k + l.getD k 0
theorem beS_bd {l : List Int} (h : ∀ k (h : k < l.length), 0 ≤ l[k] ∧ l[k] ≤ 131072) : ∀ k, 0 ≤ beS l k ∧ beS l k ≤ 131072 * (k : Int)
  | 0 => by simp [beS]
  | k + 1 => by
    have ih := beS_bd h k
    have : 0 ≤ l.getD k 0 ∧ l.getD k 0 ≤ 131072 := by
      by_cases hk : k < l.length
      · rw [List.getD_eq_getElem?_getD, List.getElem?_eq_getElem hk]; exact h k hk
      · rw [List.getD_eq_getElem?_getD, List.getElem?_eq_none (by omega)]; simp
    unfold beS
    omega
set_option maxRecDepth 100000 in
theorem p_beginning (b : Brg) (s : Nat) (w : World) (h : BgAt w b) (hs : s < b.sp.length) (hn : b.sp.length ≤ 6) (hv : ∀ k (h : k < b.sp.length), 0 ≤ b.sp[k] ∧ b.sp[k] ≤ 131072) (hcap : b.sp.length ≤ b.k0) :
    Calls Try.prog 72 #[bgV b, .int .i64 s] w fun e w' => e = .returned (.int .i64 (beS b.sp s)) ∧ Up w w' := by
  unfold bgV
  rcases h.s with hnil | ⟨B, off, hA, hcc⟩
  · rw [hnil] at hs; simp at hs
  rw [hA]
  have HBd := hide (beS_bd hv)
  have HC := hide hcc
  have HGet := hide (fun k (h : k < b.sp.length) => (show beS b.sp (k + 1) = beS b.sp k + b.sp[k] by show beS b.sp k + b.sp.getD k 0 = _; rw [List.getD_eq_getElem?_getD, List.getElem?_eq_getElem h]; rfl))
  have HV := hide hv
  obtain ⟨n, hN⟩ : ∃ n, b.sp.length = n := ⟨_, rfl⟩
  have HN := hide hN
  rw [hN] at hs hn hcap ⊢
  have z0 : beS b.sp 0 = 0 := rfl
  have Z0 := hide z0
  clear h hcc hv hA hN z0
  obtain ⟨sp, mo, sh, A0, A1, A2, k0, k1, k2, dy, la, tr⟩ := b
  dsimp only at *
  generalize mo.length = n1
  generalize sh.length = n2
  obtain ⟨G, hG⟩ : ∃ G, beS sp = G := ⟨_, rfl⟩
  rw [hG] at HBd HGet Z0 ⊢
  clear hG
  have i0 : (0 : Int) ≤ (s : Int) := by omega
  have i1 : (s : Int) ≤ (k0 : Int) := by omega
  have i2 : (s : Int).toNat = s := by omega
  go_enter Try.func72, Try.ntmps72
  go_upto_region 3 with fail
  refine at_wpB (fun W0 hW0 => ?_)
  have U : Up w W0 := by rw [hW0]; exact (by repeat' (first | (with_reducible exact up_refl _) | (with_reducible assumption) | (with_reducible refine up_alloc ?_ _) | (with_reducible refine up_drewN ?_ _) | (with_reducible refine up_drew ?_) | (with_reducible refine up_set ?_ (by first | (simp; done) | (simp; omega) | omega) _) | (refine up_trans ?_ (by with_reducible assumption))))
  clear hW0
  go_loopw [5, 13] (fun s5 s13 wr => ∃ k : Nat, k ≤ s ∧ s13 = .int .i64 k ∧ s5 = .int .i64 (G k) ∧ Up w wr) (fun _ s13 _ => s - (intOf s13).toNat)
  case atStart => exact ⟨0, by omega, rfl, by rw [unhide Z0], U⟩
  case round =>
    obtain ⟨k, hk, rfl, rfl, Ur⟩ := hrel
    clear U
    by_cases hlt : k < s
    · have hl : k < sp.length := by rw [unhide HN]; omega
      have c0 := up_cell Ur (unhide HC k hl)
      have hst := unhide HGet k hl
      have hb1 := unhide HBd k
      have hb2 := unhide HBd (k + 1)
      obtain ⟨v, hv⟩ : ∃ v, sp[k] = v := ⟨_, rfl⟩
      rw [hv] at c0 hst
      obtain ⟨g, hg⟩ : ∃ g, G k = g := ⟨_, rfl⟩
      rw [hg] at hst hb1 ⊢
      have HST := hide hst
      have w1 : IntKind.i64.wrap (g + v) = g + v := IntWalk.i64_in _ ⟨by omega, by omega⟩
      have hwk : IntKind.i64.wrap ((k : Int) + 1) = (k : Int) + 1 := IntWalk.i64_in _ ⟨by omega, by omega⟩
      have j0 : (0 : Int) ≤ (k : Int) := by omega
      have j1 : (k : Int) < (s : Int) := by omega
      have j2 : (k : Int).toNat = k := by omega
      clear hst hb1 hb2 hv hg
      go_wp2
      go_roundw
      case rel => exact ⟨k + 1, by omega, by go_num, by rw [unhide HST], Ur⟩
      case measure => simp [intOf]; omega
    · obtain rfl : k = s := by omega
      go_wp2
      go_ret
      exact ⟨rfl, Ur⟩
end Go.Proofs.Ytdignnmhiifpgaa
