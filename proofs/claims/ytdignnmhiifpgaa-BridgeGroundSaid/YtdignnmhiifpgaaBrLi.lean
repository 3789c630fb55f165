/- The line of a moment at a place. -/
import Derived.Test.YtdignnmhiifpgaaBrMo
namespace Go.Proofs.Ytdignnmhiifpgaa
open Go.RowKit Go.Proofs.Gn
attribute [local go_sem] Oper.semAt_some
set_option linter.unusedVariables false
theorem fld6 (v0 v1 v2 v3 v4 v5 : Int) (f : Value) (w : World) : (Instr.field 87 (.agg #[.int .i64 v0, .int .i64 v1, .int .i64 v2, .int .i64 v3, .int .i64 v4, .int .i64 v5, f]) 4).run Try.prog w = .ok f w := by
  kernel_rfl
def liE (b : Brg) (s x p : Int) : Int := orF [bgE b, cpE b s x, plE p]
def liV (b : Brg) (s x p : Int) : Int := if liE b s x p = 0 then moL (spK b s) x p else 0
theorem p_lineV (b : Brg) (s x p : Int) (w : World) (h : BgAt w b) (hcap : b.sp.length ≤ b.k0) (W : World) (hU : Up w W) (hE : liE b s x p = 0) :
    Calls Try.prog 50 #[bgV b, .int .i64 s, .int .i64 x] W fun e w' => ∃ (v0 v1 v2 v3 v4 v5 : Int) (bl bx : Nat), e = .returned (.agg #[.int .i64 v0, .int .i64 v1, .int .i64 v2, .int .i64 v3, .int .i64 v4, .int .i64 v5, .func (.func 73) #[] #[.pointer (some ⟨bl, 0, none⟩), .pointer (some ⟨bx, 0, none⟩)]]) ∧ Up W w' ∧ Calls Try.prog 73 #[.int .i64 p, .pointer (some ⟨bl, 0, none⟩), .pointer (some ⟨bx, 0, none⟩)] w' fun e w2 => e = .returned (.int .i64 (liV b s x p)) ∧ Up w' w2 := by
  obtain ⟨z1, z3, z4⟩ := orF_3 hE
  have hpp : win6 p (-4194304) 4194304 = true := by unfold plE at z4; split at z4 <;> first | assumption | cases z4
  have hp2 := win6_yes hpp
  obtain ⟨⟨k1, k2⟩, ⟨k3, k4⟩, k5⟩ := bgE_ok z1
  have hcs : csE b s = 0 := by unfold cpE at z3; split at z3 <;> first | assumption | cases z3
  have hw : win6 x 0 (spK b s) = true := by unfold cpE at z3; rw [if_pos hcs] at z3; split at z3 <;> first | assumption | cases z3
  have hs : win6 s 0 ((b.sp.length : Int) - 1) = true := by unfold csE at hcs; split at hcs <;> first | assumption | cases hcs
  have hs' := win6_yes hs
  have hx := win6_yes hw
  have hk : s.toNat < b.sp.length := by omega
  have e6 : spK b s = b.sp[s.toNat] := by unfold spK; rw [List.getD_eq_getElem?_getD, List.getElem?_eq_getElem hk]; rfl
  have e7 : ((s.toNat : Nat) : Int) = s := by omega
  have hv : ∀ k (h : k < b.sp.length), 0 ≤ b.sp[k] ∧ b.sp[k] ≤ 131072 := fun k hh => by have := k5 k hh; omega
  have hl := hv _ hk
  have p1 := p_ofMoment b s.toNat x W (bgAt_up h hU) hk k2 hv hcap
  rw [e7] at p1
  have hV : liV b s x p = moL b.sp[s.toNat] x p := by unfold liV; rw [if_pos hE, e6]
  rw [hV]
  refine p1.mono fun e w' ⟨bl, bx, he, hu, g1, g2⟩ => ⟨_, _, _, _, _, _, bl, bx, he, hu, ?_⟩
  exact (p_mom1 bl bx b.sp[s.toNat] x p w' g1 g2 hl ⟨hx.1, by rw [← e6] at hl; omega⟩ ⟨by omega, by omega⟩).mono (fun e w2 ⟨he, hw⟩ => ⟨he, hw ▸ up_refl w'⟩)
set_option maxRecDepth 100000 in
set_option maxHeartbeats 4000000 in
theorem p_Line (b : Brg) (s x p : Int) (w : World) (h : BgAt w b) (hn : b.sp.length ≤ 9223372036854775807 ∧ b.mo.length ≤ 9223372036854775807 ∧ b.sh.length ≤ 9223372036854775807) (hcap : b.sp.length ≤ b.k0) :
    Calls Try.prog 27 #[bgV b, .int .i64 s, .int .i64 x, .int .i64 p] w fun e w' => e = .returned (.tuple #[.int .i64 (liV b s x p), .int .i64 (liE b s x p)]) ∧ Up w w' := by
  have H1 := hide (fun W (hU : Up w W) => p_Check6 b W (bgAt_up h hU) hn)
  have H3 := hide (fun W (hU : Up w W) => p_checkPoint b s x W (bgAt_up h hU) hn.1)
  have H4 := hide (fun (W : World) (g : Nat) (h1 : I6 W (some ⟨g, 0, none⟩) [bgE b, cpE b s x, plE p]) => (show Calls Try.prog 43 #[.slice (some ⟨g, 0, none⟩) 3 3] W _ from p_Or (some ⟨g, 0, none⟩) [bgE b, cpE b s x, plE p] 3 W h1 (by simp)))
  have H6 := hide (fun W => p_checkPlace p W)
  have H5 := hide (fun W (hU : Up w W) hE => p_lineV b s x p w h hcap W hU hE)
  have hV : liE b s x p ≠ 0 → liV b s x p = 0 := fun hE => by unfold liV; rw [if_neg hE]
  have hEE : orF [bgE b, cpE b s x, plE p] = liE b s x p := rfl
  rw [hEE] at H4
  obtain ⟨V, hVV⟩ : ∃ V, liV b s x p = V := ⟨_, rfl⟩
  obtain ⟨E, hE⟩ : ∃ V, liE b s x p = V := ⟨_, rfl⟩
  obtain ⟨E1, hE1⟩ : ∃ V, bgE b = V := ⟨_, rfl⟩
  obtain ⟨E3, hE3⟩ : ∃ V, cpE b s x = V := ⟨_, rfl⟩
  obtain ⟨E4, hE4⟩ : ∃ V, plE p = V := ⟨_, rfl⟩
  rw [hVV, hE] at H5 hV ⊢
  rw [hE1] at H1 H4
  rw [hE3] at H3 H4
  rw [hE4] at H6 H4
  rw [hE] at H4
  unfold bgV at H1 H3 H5 ⊢
  clear hVV hE hE1 hE3 hE4 hEE h hn hcap
  obtain ⟨sp, mo, sh, A0, A1, A2, k0, k1, k2, dy, la, tr⟩ := b
  dsimp only at *
  generalize sp.length = n0 at *
  generalize mo.length = n1 at *
  generalize sh.length = n2 at *
  have hmx : Try.prog.follows .mixedOrders = true := by kernel_rfl
  go_enter Try.func27, Try.ntmps27
  go_upto_region 1 with fail
  refine at_wpB (fun W hW => ?_)
  have U : Up w W := by rw [hW]; exact (by repeat' (first | (with_reducible exact up_refl _) | (with_reducible assumption) | (with_reducible refine up_alloc ?_ _) | (with_reducible refine up_drewN ?_ _) | (with_reducible refine up_drew ?_) | (with_reducible refine up_set ?_ (by first | (simp; done) | (simp; omega) | omega) _) | (refine up_trans ?_ (by with_reducible assumption))))
  have n4 : Bx W w.heap.size [.slice A0 n0 k0, .slice A1 n1 k1, .slice A2 n2 k2, .int .i64 dy, .int .i64 la, .int .i64 tr] := by rw [hW]; exact bx_new w _ _
  clear hW
  have e0 : ∀ q : UpW W, q.v.cell? ⟨w.heap.size, 0, none⟩ = some (.slice A0 n0 k0) := fun q => (bx_up n4 q.up 0 _ rfl).1
  have e1 : ∀ q : UpW W, q.v.cell? ⟨w.heap.size, 1, none⟩ = some (.slice A1 n1 k1) := fun q => (bx_up n4 q.up 1 _ rfl).1
  have e2 : ∀ q : UpW W, q.v.cell? ⟨w.heap.size, 2, none⟩ = some (.slice A2 n2 k2) := fun q => (bx_up n4 q.up 2 _ rfl).1
  have e3 : ∀ q : UpW W, q.v.cell? ⟨w.heap.size, 3, none⟩ = some (.int .i64 dy) := fun q => (bx_up n4 q.up 3 _ rfl).1
  have e4 : ∀ q : UpW W, q.v.cell? ⟨w.heap.size, 4, none⟩ = some (.int .i64 la) := fun q => (bx_up n4 q.up 4 _ rfl).1
  have e5 : ∀ q : UpW W, q.v.cell? ⟨w.heap.size, 5, none⟩ = some (.int .i64 tr) := fun q => (bx_up n4 q.up 5 _ rfl).1
  have q1 := hide (fun q : UpW W => unhide H1 q.v (up_trans U q.up))
  have q6 := hide (fun q : UpW W => (unhide H6 q.v).mono (fun e w' ⟨he, hw⟩ => (⟨he, hw ▸ up_refl q.v⟩ : _ ∧ Up q.v w')))
  have q3 := hide (fun q : UpW W => unhide H3 q.v (up_trans U q.up))
  refine wpIn_wide.1 (Hin.wpIn_region_lateM (F := Fence.wide) (n := 0) (S := fun w' => ∃ p : UpW W, w' = p.v) 8 2 #[true, true, true, true, true, true, true, true, true, false, false] Hin.open_wide hmx (by kernel_rfl) (by simp only [List.take_succ_cons, List.take_zero]; rfl) rfl ⟨⟨_, up_drew (up_refl _)⟩, rfl⟩ ?_)
  (repeat (go_big_quiet_step (first | (go_at_call 48; exact upq (unhide q1 _)) | (go_at_call 49; exact upq (unhide q3 _)) | (go_at_call 52; exact upq (unhide q6 _)))))
  refine wpQuiet_nil ⟨rfl, ?_⟩
  rintro _ ⟨pq, rfl⟩
  have Uq := up_trans U pq.up
  have m4 := bx_up n4 pq.up
  clear n4 e0 e1 e2 e3 e4 e5 q1 q3 q6 H1 H3 H6
  go_simp
  refine at_any (fun W2 hW2 => ?_)
  have U3 : Up pq.v W2 := by rw [hW2]; exact up_alloc (up_refl _) _
  have hI := i6_3 (W := W2) (g := pq.v.heap.size) (a := E1) (b := E3) (c := E4) (by rw [hW2]; exact bx_new _ _ _)
  have hO := hide (unhide H4 W2 _ hI)
  have r4 := bx_up m4 U3
  have U4 := up_trans Uq U3
  clear hW2 hI H4 m4 U3 Uq
  refine wpAnyIn_ready (rs := [9]) (by kernel_rfl) (by simp) ?_; refine AllReadyIn.cons rfl (fun K hK => ?_) AllReadyIn.nil; go_simp
  refine ⟨trivial, rfl, CallsIn.mono (callsIn_wide.2 (unhide hO)) ?_⟩
  rintro e W3 ⟨rfl, hu⟩
  refine hK _ _ ?_
  clear hK K hO
  have s4 := bx_up r4 hu
  have U5 := up_trans U4 hu
  clear r4 U4
  refine wpAnyIn_ready (rs := [10]) (by kernel_rfl) (by simp) ?_; refine AllReadyIn.cons rfl (fun K hK => ?_) AllReadyIn.nil; go_simp
  refine hK _ _ ?_
  clear hK K
  refine wpAnyIn_done (by kernel_rfl) ?_ _
  have d0 := (s4 0 _ rfl).1
  have d1 := (s4 1 _ rfl).1
  have d2 := (s4 2 _ rfl).1
  have d3 := (s4 3 _ rfl).1
  have d4 := (s4 4 _ rfl).1
  have d5 := (s4 5 _ rfl).1
  clear hmx hu s4
  by_cases hE : E = 0
  · have hw5 := hide (fun W hU => unhide H5 W hU hE)
    have HU5 := hide U5
    subst hE
    clear hV H5 U5 U
    go_wp2_with (first | (go_at_call 50; (with_reducible refine (unhide hw5 _ (unhide HU5)).mono ?_); rintro e w6 ⟨v0, v1, v2, v3, v4, v5, bl, bx, rfl, hu6, hc⟩; have hc := hide hc; have hfl := fun W => fld6 v0 v1 v2 v3 v4 v5 (.func (.func 73) #[] #[.pointer (some ⟨bl, 0, none⟩), .pointer (some ⟨bx, 0, none⟩)]) W) | (go_at_call 73; (with_reducible refine (unhide hc).mono ?_); rintro e w7 ⟨rfl, hu7⟩; have U7 := up_trans (unhide HU5) (up_trans hu6 hu7)))
    go_ret2
    exact ⟨rfl, U7⟩
  · obtain rfl := hV hE
    have e1 : (E == 0) = false := by simp; exact hE
    clear hV H5 U
    go_wp2
    go_ret2
    exact ⟨rfl, U5⟩
end Go.Proofs.Ytdignnmhiifpgaa
