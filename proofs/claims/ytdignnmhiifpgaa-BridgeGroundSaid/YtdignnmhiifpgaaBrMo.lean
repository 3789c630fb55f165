/- The effect for a moment and for an end at a place. -/
import Derived.Test.YtdignnmhiifpgaaBrY
namespace Go.Proofs.Ytdignnmhiifpgaa
open Go.RowKit Go.Proofs.Gn
attribute [local go_sem] Oper.semAt_some
set_option linter.unusedVariables false
def plE (p : Int) : Int := if win6 p (-4194304) 4194304 then 0 else 3
theorem p_checkPlace (p : Int) (w : World) : Calls Try.prog 52 #[.int .i64 p] w fun e w' => e = .returned (.int .i64 (plE p)) ∧ w = w' := by
  unfold plE
  have H0 := hide (fun W => p_w64 p (-4194304) 4194304 W)
  generalize win6 p (-4194304) 4194304 = r at *
  cases r
  all_goals
    go_enter Try.func52, Try.ntmps52
    go_wp2_with (go_at_call 37; (with_reducible refine (unhide H0 _).mono ?_); rintro e w1 ⟨rfl, rfl⟩)
    go_ret
    exact ⟨rfl, rfl⟩
theorem orF_4 {a b c d : Int} (h : orF [a, b, c, d] = 0) : a = 0 ∧ b = 0 ∧ c = 0 ∧ d = 0 := by
  have e : orF [a, b, c, d] = if a = 0 then orF [b, c, d] else a := rfl
  rw [e] at h
  split at h
  · rename_i h1; exact ⟨h1, orF_3 h⟩
  · rename_i h1; exact absurd h h1
theorem i6_4 {W : World} {g : Nat} {a b c d : Int} (h : Bx W g [.int .i64 a, .int .i64 b, .int .i64 c, .int .i64 d]) : I6 W (some ⟨g, 0, none⟩) [a, b, c, d] := .inr ⟨g, 0, rfl, fun k hk => by
  match k, hk with
  | 0, _ => exact (h 0 _ rfl).1
  | 1, _ => exact (h 1 _ rfl).1
  | 2, _ => exact (h 2 _ rfl).1
  | 3, _ => exact (h 3 _ rfl).1⟩
def moE (b : Brg) (ts : List (Int × Int)) (s x p : Int) : Int := orF [bgE b, ctE ts, cpE b s x, plE p]
def moV (b : Brg) (ts : List (Int × Int)) (s x p : Int) : Int := if moE b ts s x p = 0 then ef (moLn s.toNat x (beS b.sp s.toNat) (spK b s) 0 0) p ts else 0
theorem p_momEff (b : Brg) (A : Option Addr) (ts : List (Int × Int)) (cap : Nat) (s x p : Int) (w : World) (h : BgAt w b) (hcap : b.sp.length ≤ b.k0) (hF : Frs w A ts) (W : World) (hU : Up w W) (hE : moE b ts s x p = 0) :
    Calls Try.prog 50 #[bgV b, .int .i64 s, .int .i64 x] W fun e w' => ∃ Lv, e = .returned Lv ∧ Up W w' ∧ Calls Try.prog 53 #[Lv, .int .i64 p, .slice A ts.length cap] w' fun e w2 => e = .returned (.int .i64 (moV b ts s x p)) ∧ Up w' w2 := by
  obtain ⟨z1, z2, z3, z4⟩ := orF_4 hE
  have hpp : win6 p (-4194304) 4194304 = true := by unfold plE at z4; split at z4 <;> first | assumption | cases z4
  have hp2 := win6_yes hpp
  obtain ⟨⟨k1, k2⟩, ⟨k3, k4⟩, k5⟩ := bgE_ok z1
  obtain ⟨t1, t2⟩ := trOk_of z2
  have hcs : csE b s = 0 := by unfold cpE at z3; split at z3 <;> first | assumption | cases z3
  have hw : win6 x 0 (spK b s) = true := by unfold cpE at z3; rw [if_pos hcs] at z3; split at z3 <;> first | assumption | cases z3
  have hs : win6 s 0 ((b.sp.length : Int) - 1) = true := by unfold csE at hcs; split at hcs <;> first | assumption | cases hcs
  have hs' := win6_yes hs
  have hx := win6_yes hw
  have hk : s.toNat < b.sp.length := by omega
  have e6 : spK b s = b.sp[s.toNat] := by unfold spK; rw [List.getD_eq_getElem?_getD, List.getElem?_eq_getElem hk]; rfl
  have e7 : ((s.toNat : Nat) : Int) = s := by omega
  have hv : ∀ k (h : k < b.sp.length), 0 ≤ b.sp[k] ∧ b.sp[k] ≤ 131072 := fun k hh => by have := k5 k hh; omega
  have bb := beS_bd hv s.toNat
  have hl := hv _ hk
  have ho : 0 ≤ beS b.sp s.toNat ∧ beS b.sp s.toNat ≤ 1048576 := by omega
  have p1 := p_ofMoment b s.toNat x W (bgAt_up h hU) hk k2 hv hcap
  rw [e7] at p1
  have e8 : ∀ bl bx, ef (moLn s.toNat x (beS b.sp s.toNat) b.sp[s.toNat] bl bx) p ts = moV b ts s x p := fun bl bx => by
    unfold moV
    rw [if_pos hE, e6]
    exact ef_congr (L := moLn s.toNat x (beS b.sp s.toNat) b.sp[s.toNat] bl bx) (M := moLn s.toNat x (beS b.sp s.toNat) b.sp[s.toNat] 0 0) rfl rfl p ts
  have p2 := fun (bl bx : Nat) (W' : World) (hU' : Up w W') (g1 : W'.cell? ⟨bl, 0, none⟩ = some (.int .i64 b.sp[s.toNat])) (g2 : W'.cell? ⟨bx, 0, none⟩ = some (.int .i64 x)) =>
    p_effect (moLn s.toNat x (beS b.sp s.toNat) b.sp[s.toNat] bl bx) p A ts cap W' (moLn_ok g1 g2 hl ⟨hx.1, by rw [← e6]; exact hx.2⟩ ho) (frs_up hF hU') t1 ⟨by omega, by omega⟩
  simp only [e8] at p2
  exact p1.mono fun e w' ⟨bl, bx, he, hu, g1, g2⟩ => ⟨_, he, hu, p2 bl bx w' (up_trans hU hu) g1 g2⟩
set_option maxRecDepth 100000 in
set_option maxHeartbeats 4000000 in
theorem p_Moment (b : Brg) (A : Option Addr) (ts : List (Int × Int)) (cap : Nat) (s x p : Int) (w : World) (h : BgAt w b) (hn : b.sp.length ≤ 9223372036854775807 ∧ b.mo.length ≤ 9223372036854775807 ∧ b.sh.length ≤ 9223372036854775807) (hcap : b.sp.length ≤ b.k0) (hF : Frs w A ts) (hnt : ts.length ≤ 9223372036854775807) :
    Calls Try.prog 22 #[bgV b, .slice A ts.length cap, .int .i64 s, .int .i64 x, .int .i64 p] w fun e w' => e = .returned (.tuple #[.int .i64 (moV b ts s x p), .int .i64 (moE b ts s x p)]) ∧ Up w w' := by
  have H1 := hide (fun W (hU : Up w W) => p_Check6 b W (bgAt_up h hU) hn)
  have H2 := hide (fun W (hU : Up w W) => p_CheckTrain A ts cap W (frs_up hF hU) hnt)
  have H3 := hide (fun W (hU : Up w W) => p_checkPoint b s x W (bgAt_up h hU) hn.1)
  have H4 := hide (fun (W : World) (g : Nat) (h1 : I6 W (some ⟨g, 0, none⟩) [bgE b, ctE ts, cpE b s x, plE p]) => (show Calls Try.prog 43 #[.slice (some ⟨g, 0, none⟩) 4 4] W _ from p_Or (some ⟨g, 0, none⟩) [bgE b, ctE ts, cpE b s x, plE p] 4 W h1 (by simp)))
  have H6 := hide (fun W => p_checkPlace p W)
  have H5 := hide (fun W (hU : Up w W) hE => p_momEff b A ts cap s x p w h hcap hF W hU hE)
  have hV : moE b ts s x p ≠ 0 → moV b ts s x p = 0 := fun hE => by unfold moV; rw [if_neg hE]
  have hEE : orF [bgE b, ctE ts, cpE b s x, plE p] = moE b ts s x p := rfl
  rw [hEE] at H4
  obtain ⟨V, hVV⟩ : ∃ V, moV b ts s x p = V := ⟨_, rfl⟩
  obtain ⟨E, hE⟩ : ∃ V, moE b ts s x p = V := ⟨_, rfl⟩
  obtain ⟨E1, hE1⟩ : ∃ V, bgE b = V := ⟨_, rfl⟩
  obtain ⟨E2, hE2⟩ : ∃ V, ctE ts = V := ⟨_, rfl⟩
  obtain ⟨E3, hE3⟩ : ∃ V, cpE b s x = V := ⟨_, rfl⟩
  obtain ⟨E4, hE4⟩ : ∃ V, plE p = V := ⟨_, rfl⟩
  obtain ⟨n, hN⟩ : ∃ n, ts.length = n := ⟨_, rfl⟩
  rw [hVV, hE] at H5 hV ⊢
  rw [hE1] at H1 H4
  rw [hE2, hN] at H2
  rw [hE3] at H3 H4
  rw [hE4] at H6 H4
  rw [hE2, hE] at H4
  rw [hN] at H5 ⊢
  unfold bgV at H1 H3 H5 ⊢
  clear hVV hE hE1 hE2 hE3 hE4 hEE hN h hn hcap hF hnt
  obtain ⟨sp, mo, sh, A0, A1, A2, k0, k1, k2, dy, la, tr⟩ := b
  dsimp only at *
  generalize sp.length = n0 at *
  generalize mo.length = n1 at *
  generalize sh.length = n2 at *
  have hmx : Try.prog.follows .mixedOrders = true := by kernel_rfl
  go_enter Try.func22, Try.ntmps22
  go_upto_region 1 with fail
  refine at_wpB (fun W hW => ?_)
  have U : Up w W := by rw [hW]; exact (by repeat' (first | (with_reducible exact up_refl _) | (with_reducible assumption) | (with_reducible refine up_alloc ?_ _) | (with_reducible refine up_drewN ?_ _) | (with_reducible refine up_drew ?_) | (with_reducible refine up_set ?_ (by first | (simp; done) | (simp; omega) | omega) _) | (refine up_trans ?_ (by with_reducible assumption))))
  have n4 : Bx W w.heap.size [.slice A0 n0 k0, .slice A1 n1 k1, .slice A2 n2 k2, .int .i64 dy, .int .i64 la, .int .i64 tr] := by rw [hW]; exact bx_new w _ _
  clear hW
  have e0 : ∀ q : UpW W, q.v.cell? ⟨w.heap.size, 0, none⟩ = some (.slice A0 n0 k0) := fun q => (bx_up n4 q.up 0 _ rfl).1
  have e1 : ∀ q : UpW W, q.v.cell? ⟨w.heap.size, 1, none⟩ = some (.slice A1 n1 k1) := fun q => (bx_up n4 q.up 1 _ rfl).1
  have e2 : ∀ q : UpW W, q.v.cell? ⟨w.heap.size, 2, none⟩ = some (.slice A2 n2 k2) := fun q => (bx_up n4 q.up 2 _ rfl).1
  have e3 : ∀ q : UpW W, q.v.cell? ⟨w.heap.size, 3, none⟩ = some (.int .i64 dy) := fun q => (bx_up n4 q.up 3 _ rfl).1
  have e4 : ∀ q : UpW W, q.v.cell? ⟨w.heap.size, 4, none⟩ = some (.int .i64 la) := fun q => (bx_up n4 q.up 4 _ rfl).1
  have e5 : ∀ q : UpW W, q.v.cell? ⟨w.heap.size, 5, none⟩ = some (.int .i64 tr) := fun q => (bx_up n4 q.up 5 _ rfl).1
  have q1 := hide (fun q : UpW W => unhide H1 q.v (up_trans U q.up))
  have q2 := hide (fun q : UpW W => unhide H2 q.v (up_trans U q.up))
  have q6 := hide (fun q : UpW W => (unhide H6 q.v).mono (fun e w' ⟨he, hw⟩ => (⟨he, hw ▸ up_refl q.v⟩ : _ ∧ Up q.v w')))
  have q3 := hide (fun q : UpW W => unhide H3 q.v (up_trans U q.up))
  refine wpIn_wide.1 (Hin.wpIn_region_lateM (F := Fence.wide) (n := 0) (S := fun w' => ∃ p : UpW W, w' = p.v) 10 2 #[true, true, true, true, true, true, true, true, true, true, true, false, false] Hin.open_wide hmx (by kernel_rfl) (by simp only [List.take_succ_cons, List.take_zero]; rfl) rfl ⟨⟨_, up_drew (up_refl _)⟩, rfl⟩ ?_)
  (repeat (go_big_quiet_step (first | (go_at_call 48; exact upq (unhide q1 _)) | (go_at_call 33; exact upq (unhide q2 _)) | (go_at_call 49; exact upq (unhide q3 _)) | (go_at_call 52; exact upq (unhide q6 _)))))
  refine wpQuiet_nil ⟨rfl, ?_⟩
  rintro _ ⟨pq, rfl⟩
  have Uq := up_trans U pq.up
  have m4 := bx_up n4 pq.up
  clear n4 e0 e1 e2 e3 e4 e5 q1 q2 q3 q6 H1 H2 H3 H6
  go_simp
  refine at_any (fun W2 hW2 => ?_)
  have U3 : Up pq.v W2 := by rw [hW2]; exact up_alloc (up_refl _) _
  have hI := i6_4 (W := W2) (g := pq.v.heap.size) (a := E1) (b := E2) (c := E3) (d := E4) (by rw [hW2]; exact bx_new _ _ _)
  have hO := hide (unhide H4 W2 _ hI)
  have r4 := bx_up m4 U3
  have U4 := up_trans Uq U3
  clear hW2 hI H4 m4 U3 Uq
  refine wpAnyIn_ready (rs := [11]) (by kernel_rfl) (by simp) ?_; refine AllReadyIn.cons rfl (fun K hK => ?_) AllReadyIn.nil; go_simp
  refine ⟨trivial, rfl, CallsIn.mono (callsIn_wide.2 (unhide hO)) ?_⟩
  rintro e W3 ⟨rfl, hu⟩
  refine hK _ _ ?_
  clear hK K hO
  have s4 := bx_up r4 hu
  have U5 := up_trans U4 hu
  clear r4 U4
  refine wpAnyIn_ready (rs := [12]) (by kernel_rfl) (by simp) ?_; refine AllReadyIn.cons rfl (fun K hK => ?_) AllReadyIn.nil; go_simp
  refine hK _ _ ?_
  clear hK K
  refine wpAnyIn_done (by kernel_rfl) ?_ _
  have d0 := (s4 0 _ rfl).1
  have d1 := (s4 1 _ rfl).1
  have d2 := (s4 2 _ rfl).1
  have d3 := (s4 3 _ rfl).1
  have d4 := (s4 4 _ rfl).1
  have d5 := (s4 5 _ rfl).1
  clear hmx hu s4
  by_cases hE : E = 0
  · have hw5 := hide (fun W hU => unhide H5 W hU hE)
    have HU5 := hide U5
    subst hE
    clear hV H5 U5 U
    go_wp2_with (first | (go_at_call 50; (with_reducible refine (unhide hw5 _ (unhide HU5)).mono ?_); rintro e w6 ⟨Lv, rfl, hu6, hc⟩; have hc := hide hc) | (go_at_call 53; (with_reducible refine (unhide hc).mono ?_); rintro e w7 ⟨rfl, hu7⟩; have U7 := up_trans (unhide HU5) (up_trans hu6 hu7)))
    go_ret2
    exact ⟨rfl, U7⟩
  · obtain rfl := hV hE
    have e1 : (E == 0) = false := by simp; exact hE
    clear hV H5 U
    go_wp2
    go_ret2
    exact ⟨rfl, U5⟩
def eeE (b : Brg) (ts : List (Int × Int)) (s p : Int) : Int := orF [bgE b, ctE ts, csE b s, plE p]
def eeV (right : Bool) (b : Brg) (ts : List (Int × Int)) (s p : Int) : Int := if eeE b ts s p = 0 then ef (enLn right s.toNat (beS b.sp s.toNat) (spK b s) 0 0) p ts else 0
theorem p_endEff (b : Brg) (A : Option Addr) (ts : List (Int × Int)) (cap : Nat) (right : Bool) (s p : Int) (w : World) (h : BgAt w b) (hcap : b.sp.length ≤ b.k0) (hF : Frs w A ts) (W : World) (hU : Up w W) (hE : eeE b ts s p = 0) :
    Calls Try.prog 55 #[bgV b, .int .i64 s, .bool right] W fun e w' => ∃ Lv, e = .returned Lv ∧ Up W w' ∧ Calls Try.prog 53 #[Lv, .int .i64 p, .slice A ts.length cap] w' fun e w2 => e = .returned (.int .i64 (eeV right b ts s p)) ∧ Up w' w2 := by
  obtain ⟨z1, z2, z3, z4⟩ := orF_4 hE
  have hpp : win6 p (-4194304) 4194304 = true := by unfold plE at z4; split at z4 <;> first | assumption | cases z4
  have hp2 := win6_yes hpp
  obtain ⟨⟨k1, k2⟩, ⟨k3, k4⟩, k5⟩ := bgE_ok z1
  obtain ⟨t1, t2⟩ := trOk_of z2
  have hs : win6 s 0 ((b.sp.length : Int) - 1) = true := by unfold csE at z3; split at z3 <;> first | assumption | cases z3
  have hs' := win6_yes hs
  have hk : s.toNat < b.sp.length := by omega
  have e6 : spK b s = b.sp[s.toNat] := by unfold spK; rw [List.getD_eq_getElem?_getD, List.getElem?_eq_getElem hk]; rfl
  have e7 : ((s.toNat : Nat) : Int) = s := by omega
  have hv : ∀ k (h : k < b.sp.length), 0 ≤ b.sp[k] ∧ b.sp[k] ≤ 131072 := fun k hh => by have := k5 k hh; omega
  have bb := beS_bd hv s.toNat
  have hl := hv _ hk
  have ho : 0 ≤ beS b.sp s.toNat ∧ beS b.sp s.toNat ≤ 1048576 := by omega
  have p1 := p_ofEnd b right s.toNat W (bgAt_up h hU) hk k2 hv hcap
  rw [e7] at p1
  have e8 : ∀ bl bx, ef (enLn right s.toNat (beS b.sp s.toNat) b.sp[s.toNat] bl bx) p ts = eeV right b ts s p := fun bl bx => by
    unfold eeV
    rw [if_pos hE, e6]
    exact ef_congr (L := enLn right s.toNat (beS b.sp s.toNat) b.sp[s.toNat] bl bx) (M := enLn right s.toNat (beS b.sp s.toNat) b.sp[s.toNat] 0 0) rfl rfl p ts
  have p2 := fun (bl bx : Nat) (W' : World) (hU' : Up w W') (g1 : W'.cell? ⟨bl, 0, none⟩ = some (.int .i64 b.sp[s.toNat])) (g2 : W'.cell? ⟨bx, 0, none⟩ = some (shV6 right bl)) =>
    p_effect (enLn right s.toNat (beS b.sp s.toNat) b.sp[s.toNat] bl bx) p A ts cap W' (enLn_ok g1 g2 hl ho) (frs_up hF hU') t1 ⟨by omega, by omega⟩
  simp only [e8] at p2
  exact p1.mono fun e w' ⟨bl, bx, he, hu, g1, g2⟩ => ⟨_, he, hu, p2 bl bx w' (up_trans hU hu) g1 g2⟩
set_option maxRecDepth 100000 in
set_option maxHeartbeats 4000000 in
theorem p_End (b : Brg) (A : Option Addr) (ts : List (Int × Int)) (cap : Nat) (right : Bool) (s p : Int) (w : World) (h : BgAt w b) (hn : b.sp.length ≤ 9223372036854775807 ∧ b.mo.length ≤ 9223372036854775807 ∧ b.sh.length ≤ 9223372036854775807) (hcap : b.sp.length ≤ b.k0) (hF : Frs w A ts) (hnt : ts.length ≤ 9223372036854775807) :
    Calls Try.prog 24 #[bgV b, .slice A ts.length cap, .int .i64 s, .bool right, .int .i64 p] w fun e w' => e = .returned (.tuple #[.int .i64 (eeV right b ts s p), .int .i64 (eeE b ts s p)]) ∧ Up w w' := by
  have H1 := hide (fun W (hU : Up w W) => p_Check6 b W (bgAt_up h hU) hn)
  have H2 := hide (fun W (hU : Up w W) => p_CheckTrain A ts cap W (frs_up hF hU) hnt)
  have H3 := hide (fun W (hU : Up w W) => p_checkSpan b s W hn.1)
  have H4 := hide (fun (W : World) (g : Nat) (h1 : I6 W (some ⟨g, 0, none⟩) [bgE b, ctE ts, csE b s, plE p]) => (show Calls Try.prog 43 #[.slice (some ⟨g, 0, none⟩) 4 4] W _ from p_Or (some ⟨g, 0, none⟩) [bgE b, ctE ts, csE b s, plE p] 4 W h1 (by simp)))
  have H6 := hide (fun W => p_checkPlace p W)
  have H5 := hide (fun W (hU : Up w W) hE => p_endEff b A ts cap right s p w h hcap hF W hU hE)
  have hV : eeE b ts s p ≠ 0 → eeV right b ts s p = 0 := fun hE => by unfold eeV; rw [if_neg hE]
  have hEE : orF [bgE b, ctE ts, csE b s, plE p] = eeE b ts s p := rfl
  rw [hEE] at H4
  obtain ⟨V, hVV⟩ : ∃ V, eeV right b ts s p = V := ⟨_, rfl⟩
  obtain ⟨E, hE⟩ : ∃ V, eeE b ts s p = V := ⟨_, rfl⟩
  obtain ⟨E1, hE1⟩ : ∃ V, bgE b = V := ⟨_, rfl⟩
  obtain ⟨E2, hE2⟩ : ∃ V, ctE ts = V := ⟨_, rfl⟩
  obtain ⟨E3, hE3⟩ : ∃ V, csE b s = V := ⟨_, rfl⟩
  obtain ⟨E4, hE4⟩ : ∃ V, plE p = V := ⟨_, rfl⟩
  obtain ⟨n, hN⟩ : ∃ n, ts.length = n := ⟨_, rfl⟩
  rw [hVV, hE] at H5 hV ⊢
  rw [hE1] at H1 H4
  rw [hE2, hN] at H2
  rw [hE3] at H3 H4
  rw [hE4] at H6 H4
  rw [hE2, hE] at H4
  rw [hN] at H5 ⊢
  unfold bgV at H1 H3 H5 ⊢
  clear hVV hE hE1 hE2 hE3 hE4 hEE hN h hn hcap hF hnt
  obtain ⟨sp, mo, sh, A0, A1, A2, k0, k1, k2, dy, la, tr⟩ := b
  dsimp only at *
  generalize sp.length = n0 at *
  generalize mo.length = n1 at *
  generalize sh.length = n2 at *
  have hmx : Try.prog.follows .mixedOrders = true := by kernel_rfl
  go_enter Try.func24, Try.ntmps24
  go_upto_region 1 with fail
  refine at_wpB (fun W hW => ?_)
  have U : Up w W := by rw [hW]; exact (by repeat' (first | (with_reducible exact up_refl _) | (with_reducible assumption) | (with_reducible refine up_alloc ?_ _) | (with_reducible refine up_drewN ?_ _) | (with_reducible refine up_drew ?_) | (with_reducible refine up_set ?_ (by first | (simp; done) | (simp; omega) | omega) _) | (refine up_trans ?_ (by with_reducible assumption))))
  have n4 : Bx W w.heap.size [.slice A0 n0 k0, .slice A1 n1 k1, .slice A2 n2 k2, .int .i64 dy, .int .i64 la, .int .i64 tr] := by rw [hW]; exact bx_new w _ _
  clear hW
  have e0 : ∀ q : UpW W, q.v.cell? ⟨w.heap.size, 0, none⟩ = some (.slice A0 n0 k0) := fun q => (bx_up n4 q.up 0 _ rfl).1
  have e1 : ∀ q : UpW W, q.v.cell? ⟨w.heap.size, 1, none⟩ = some (.slice A1 n1 k1) := fun q => (bx_up n4 q.up 1 _ rfl).1
  have e2 : ∀ q : UpW W, q.v.cell? ⟨w.heap.size, 2, none⟩ = some (.slice A2 n2 k2) := fun q => (bx_up n4 q.up 2 _ rfl).1
  have e3 : ∀ q : UpW W, q.v.cell? ⟨w.heap.size, 3, none⟩ = some (.int .i64 dy) := fun q => (bx_up n4 q.up 3 _ rfl).1
  have e4 : ∀ q : UpW W, q.v.cell? ⟨w.heap.size, 4, none⟩ = some (.int .i64 la) := fun q => (bx_up n4 q.up 4 _ rfl).1
  have e5 : ∀ q : UpW W, q.v.cell? ⟨w.heap.size, 5, none⟩ = some (.int .i64 tr) := fun q => (bx_up n4 q.up 5 _ rfl).1
  have q1 := hide (fun q : UpW W => unhide H1 q.v (up_trans U q.up))
  have q2 := hide (fun q : UpW W => unhide H2 q.v (up_trans U q.up))
  have q6 := hide (fun q : UpW W => (unhide H6 q.v).mono (fun e w' ⟨he, hw⟩ => (⟨he, hw ▸ up_refl q.v⟩ : _ ∧ Up q.v w')))
  have q3 := hide (fun q : UpW W => unhide H3 q.v (up_trans U q.up))
  refine wpIn_wide.1 (Hin.wpIn_region_lateM (F := Fence.wide) (n := 0) (S := fun w' => ∃ p : UpW W, w' = p.v) 9 2 #[true, true, true, true, true, true, true, true, true, true, false, false] Hin.open_wide hmx (by kernel_rfl) (by simp only [List.take_succ_cons, List.take_zero]; rfl) rfl ⟨⟨_, up_drew (up_refl _)⟩, rfl⟩ ?_)
  (repeat (go_big_quiet_step (first | (go_at_call 48; exact upq (unhide q1 _)) | (go_at_call 33; exact upq (unhide q2 _)) | (go_at_call 54; exact upq (unhide q3 _)) | (go_at_call 52; exact upq (unhide q6 _)))))
  refine wpQuiet_nil ⟨rfl, ?_⟩
  rintro _ ⟨pq, rfl⟩
  have Uq := up_trans U pq.up
  have m4 := bx_up n4 pq.up
  clear n4 e0 e1 e2 e3 e4 e5 q1 q2 q3 q6 H1 H2 H3 H6
  go_simp
  refine at_any (fun W2 hW2 => ?_)
  have U3 : Up pq.v W2 := by rw [hW2]; exact up_alloc (up_refl _) _
  have hI := i6_4 (W := W2) (g := pq.v.heap.size) (a := E1) (b := E2) (c := E3) (d := E4) (by rw [hW2]; exact bx_new _ _ _)
  have hO := hide (unhide H4 W2 _ hI)
  have r4 := bx_up m4 U3
  have U4 := up_trans Uq U3
  clear hW2 hI H4 m4 U3 Uq
  refine wpAnyIn_ready (rs := [10]) (by kernel_rfl) (by simp) ?_; refine AllReadyIn.cons rfl (fun K hK => ?_) AllReadyIn.nil; go_simp
  refine ⟨trivial, rfl, CallsIn.mono (callsIn_wide.2 (unhide hO)) ?_⟩
  rintro e W3 ⟨rfl, hu⟩
  refine hK _ _ ?_
  clear hK K hO
  have s4 := bx_up r4 hu
  have U5 := up_trans U4 hu
  clear r4 U4
  refine wpAnyIn_ready (rs := [11]) (by kernel_rfl) (by simp) ?_; refine AllReadyIn.cons rfl (fun K hK => ?_) AllReadyIn.nil; go_simp
  refine hK _ _ ?_
  clear hK K
  refine wpAnyIn_done (by kernel_rfl) ?_ _
  have d0 := (s4 0 _ rfl).1
  have d1 := (s4 1 _ rfl).1
  have d2 := (s4 2 _ rfl).1
  have d3 := (s4 3 _ rfl).1
  have d4 := (s4 4 _ rfl).1
  have d5 := (s4 5 _ rfl).1
  clear hmx hu s4
  by_cases hE : E = 0
  · have hw5 := hide (fun W hU => unhide H5 W hU hE)
    have HU5 := hide U5
    subst hE
    clear hV H5 U5 U
    go_wp2_with (first | (go_at_call 55; (with_reducible refine (unhide hw5 _ (unhide HU5)).mono ?_); rintro e w6 ⟨Lv, rfl, hu6, hc⟩; have hc := hide hc) | (go_at_call 53; (with_reducible refine (unhide hc).mono ?_); rintro e w7 ⟨rfl, hu7⟩; have U7 := up_trans (unhide HU5) (up_trans hu6 hu7)))
    go_ret2
    exact ⟨rfl, U7⟩
  · obtain rfl := hV hE
    have e1 : (E == 0) = false := by simp; exact hE
    clear hV H5 U
    go_wp2
    go_ret2
    exact ⟨rfl, U5⟩
end Go.Proofs.Ytdignnmhiifpgaa
