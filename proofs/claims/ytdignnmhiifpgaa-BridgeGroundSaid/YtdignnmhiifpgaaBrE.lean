/- The effects of a train at all its breaks, as the program yields them. -/
import Derived.Test.YtdignnmhiifpgaaBrB
import Derived.Test.YtdignnmhiifpgaaLateM
namespace Go.Proofs.Ytdignnmhiifpgaa
open Go.RowKit Go.Proofs.Gn Go.Shelf
attribute [local go_sem] Oper.semAt_some
/-- The effects at all breaks, with where they are. -/
def efp (L : Ln) (ts : List (Int × Int)) (s : Int) : Int × Int := (ef L s ts, s)
def efs (L : Ln) (ts : List (Int × Int)) : List (Int × Int) := (brs L ts).map (efp L ts)
/-- An effect as a value. -/
def feV (L : Ln) (x : Int × Int) : Value := .agg #[.int .i64 x.1, .int .i64 L.span, .int .i64 L.po, .int .i64 x.2]
theorem ef_make (n : Nat) (L : Ln) (A : Option Addr) (len cap : Nat) (w : World) :
    CallsIn Fence.wide n Try.prog 76 #[lnV L, .slice A len cap] w fun e w' => e = .returned (.func (.func 89) #[] #[.pointer (some ⟨w.heap.size, 0, none⟩), .pointer (some ⟨w.heap.size + 1, 0, none⟩)]) ∧ w' = (w.alloc (.cells (lnC L).toArray 87)).alloc (.cells #[.slice A len cap] 30) := by
  unfold lnV lnC
  refine callsIn_of_wp Try.func76 rfl trivial ?_ rfl
  simp only [Try.ntmps76, List.size_toArray, List.length_cons, List.length_nil, Nat.reduceAdd, Nat.reduceSub, Array.replicate_succ, Array.replicate_zero, List.push_toArray, List.append_toArray, List.nil_append, List.cons_append]
  gi_wp2
  go_ret
  exact ⟨rfl, rfl⟩
theorem roundIn_wide {l2 n m : Nat} {P : Program} {l : Nat} {f : FuncId} {tmps : Array Value} {assign body : Code} {w : World} {R : Ending → World → Prop} (h : RoundIn Fence.wide n P l f tmps assign body w R) : RoundIn (Fence.wide.inRound l2) m P l f tmps assign body w R := ⟨trivial, fun c cs _ => h.2 c cs (room_wide _)⟩
set_option maxRecDepth 100000 in
set_option maxHeartbeats 8000000 in
theorem ef_seq (p : Nat → Prop) (Bt Bl : Nat) (A : Option Addr) (cap : Nat) (L : Ln) (ts : List (Int × Int)) (w : World) (hW : BrW Bt Bl A cap L ts w) (hN : BrN p Bt Bl A) (hp : ∀ k, p k → k < w.heap.size) (ht : TrOk ts) (hc : CoOk L) (hL : LnOk L w) (hLp : ∀ W W', Below w.heap.size w W → KpP p W W' → LnOk L W → LnOk L W') :
    SeqY Fence.wide 8 Try.prog 89 #[.pointer (some ⟨Bl, 0, none⟩), .pointer (some ⟨Bt, 0, none⟩)] (fun x : Int × Int => #[feV L x]) (KpQ p (w.heap.size + 2)) (fun _ _ => True)
      (fun xs => xs = efs L ts) (fun xs => ∃ D, xs ++ D = efs L ts) w := by
  intro lp J Jx W hWu hw2 hlp hJ hJx hJ0 hY
  have hWW : BrW Bt Bl A cap L ts W := hW.up hWu
  have hLW : LnOk L W := lnOk_up hL hWu
  have HEf := hide (fun (V : World) (s : Int) (hV : LnOk L V) (hF : Frs V A ts) (hs : -6291456 ≤ s ∧ s ≤ 6291456) => p_effect L s A ts cap V hV hF ht hs)
  have HSq := hide (fun (m : Nat) (B1 B2 : Nat) (V : World) (h : BrW B1 B2 A cap L ts V) (h1 : ¬ p B1) (h2 : ¬ p B2) (h3 : w.heap.size ≤ V.heap.size) => br_seq p m B1 B2 A cap L ts V h ⟨h1, h2, hN.a⟩ (fun k hk => Nat.lt_of_lt_of_le (hp k hk) h3) ht hc 7 (by omega))
  have HY := hide hY
  have HJ := hide hJ
  have HJx := hide hJx
  have HN := hide hN
  have HP := hide hp
  have HWW := hide hWW
  have HLW := hide hLW
  have HLp := hide hLp
  have HWu := hide hWu
  have HJ0 := hide hJ0
  clear hW hJ hJx hJ0 hY hN hp ht hc hL hWW hLW hLp
  have hsW := hWu.size
  clear hWu
  have hmx : Try.prog.follows .mixedOrders = true := by kernel_rfl
  have h1 : 1 ≤ 8 := by omega
  have rO : Fence.wide.round = none := rfl
  obtain ⟨n, hNn⟩ : ∃ n, ts.length = n := ⟨_, rfl⟩
  have HNn := hide hNn
  rw [hNn] at HEf
  have bl : Bx W Bl (lnC L) := (unhide HWW).l
  have ct : W.cell? ⟨Bt, 0, none⟩ = some (.slice A n cap) := by rw [← hNn]; exact (unhide HWW).t
  clear hNn
  refine callsIn_of_wp_marks Try.func89 rfl trivial ?_ rfl
  simp only [Try.ntmps89, List.size_toArray, List.length_cons, List.length_nil, Nat.reduceAdd, Nat.reduceSub, Array.replicate_succ, Array.replicate_zero, List.push_toArray, List.append_toArray, List.nil_append, List.cons_append]
  gi_upto_region 1 with fail
  refine at_wpIn (fun W1 hW1 => ?_)
  have U1 : Up W W1 := by rw [hW1]; exact (by repeat' (first | (with_reducible exact up_refl _) | (with_reducible assumption) | (with_reducible refine up_alloc ?_ _) | (with_reducible refine up_drewN ?_ _) | (with_reducible refine up_drew ?_) | (with_reducible refine up_set ?_ (by first | (simp; done) | (simp; omega) | omega) _) | (refine up_trans ?_ (by with_reducible assumption))))
  have b3 : Bx W1 W.heap.size [.func (.yield lp) #[] #[]] := by rw [hW1]; exact bx_new W _ _
  have hz1 : W1.heap.size = W.heap.size + 1 := by rw [hW1]; simp
  have bl1 := bx_up bl U1
  have ct1 := up_cell U1 ct
  clear hW1 bl ct
  have l0 : W1.cell? ⟨Bl, 0, none⟩ = some (.int .i64 L.span) := (bl1 0 _ rfl).1
  have l1 : W1.cell? ⟨Bl, 1, none⟩ = some (.int .i64 L.po) := (bl1 1 _ rfl).1
  have l2 : W1.cell? ⟨Bl, 2, none⟩ = some (.int .i64 L.org) := (bl1 2 _ rfl).1
  have l3 : W1.cell? ⟨Bl, 3, none⟩ = some (.int .i64 L.c0) := (bl1 3 _ rfl).1
  have l4 : W1.cell? ⟨Bl, 4, none⟩ = some (.int .i64 L.c1) := (bl1 4 _ rfl).1
  have l5 : W1.cell? ⟨Bl, 5, none⟩ = some (.int .i64 L.c2) := (bl1 5 _ rfl).1
  have l6 : W1.cell? ⟨Bl, 6, none⟩ = some (.func (.func L.f) #[] L.caps) := (bl1 6 _ rfl).1
  gi_wp2_with ((try refine ⟨trivial, ?_⟩); gi_at_call 90; (with_reducible refine CallsIn.mono (br_make _ L _ _ _ _) ?_); rintro e w2 ⟨rfl, rfl⟩)
  clear l0 l1 l2 l3 l4 l5 l6
  refine at_wpIn (fun W0 hW0 => ?_)
  have U0 : Up W W0 := by rw [hW0]; exact up_alloc (up_alloc U1 _) _
  have hz0 : W0.heap.size = W.heap.size + 3 := by rw [hW0]; simp [hz1]
  have t1 := bx_alloc (bx_new W1 (lnC L) 87) (.cells #[.slice A n cap] 30)
  have t2 := bx_new (W1.alloc (.cells (lnC L).toArray 87)) [.slice A n cap] 30
  have t3 := bx_up b3 (show Up W1 W0 by rw [hW0]; exact (by repeat' (first | (with_reducible exact up_refl _) | (with_reducible assumption) | (with_reducible refine up_alloc ?_ _) | (with_reducible refine up_drewN ?_ _) | (with_reducible refine up_drew ?_) | (with_reducible refine up_set ?_ (by first | (simp; done) | (simp; omega) | omega) _) | (refine up_trans ?_ (by with_reducible assumption)))))
  rw [← hW0] at t1 t2
  rw [World.size_alloc, hz1] at t2
  rw [hz1] at t1
  clear hW0 b3 bl1 ct1 U1
  have hbw : BrW (W.heap.size + 1 + 1) (W.heap.size + 1) A cap L ts W0 := ⟨by rw [unhide HNn]; exact bx1 t2, t1, frs_up (unhide HWW).f U0⟩
  have hsq := unhide HSq (W0.heap.size + 2) _ _ W0 hbw (fun h => by have := unhide HP _ h; omega) (fun h => by have := unhide HP _ h; omega) (by omega)
  have HW0 := hide ((unhide HWW).up U0)
  have HL0 := hide (lnOk_up (unhide HLW) U0)
  have HJ00 : Hid (J [] W0) := hide (unhide HJ _ _ _ _ (unhide HJ0) (up_grP U0) (fun r e => by cases e))
  have HY3 := hide (⟨t3, fun h => by have := unhide HP _ h; omega⟩ : Bx W0 W.heap.size [.func (.yield lp) #[] #[]] ∧ ¬ p W.heap.size)
  have HU0 := hide U0
  clear t1 t2 t3 hbw HWW HLW HJ0 U0 HSq
  refine wpIn_rangeFunc_ownY rO h1 (gf := 95) (lb := #[.pointer (some ⟨W.heap.size + 1 + 1, 0, none⟩), .pointer (some ⟨W.heap.size + 1, 0, none⟩)]) rfl trivial (enters_of Try.func95 (by kernel_rfl) rfl)
      hsq (Below.refl _ _) kpQ_trans (fun V o o' h hc _ => kpQ_put V _ o o' (by omega) h hc) (fun _ => rfl)
      (fun xs V => J (xs.map (efp L ts)) V ∧ KpP p W0 V) (fun c xs V => c = .ret ∧ Jx (xs.map (efp L ts)) V)
      (fun xs V V' row hs hg hr => ⟨unhide HJ _ _ _ _ hs.1 hg (fun r e => ⟨by have := (hr r e).1; omega, (hr r e).2⟩), kpP_own hs.2 hg (fun r e => (hr r e).2)⟩)
      (fun c xs V V' row hs hg hr => ⟨hs.1, unhide HJx _ _ _ _ hs.2 hg (fun r e => ⟨by have := (hr r e).1; omega, (hr r e).2⟩)⟩)
      ⟨unhide HJ00, kpP_refl _⟩
      (fun _ x a' V => (-6291456 ≤ x ∧ x ≤ 6291456) ∧ a' = { tmps := #[.func (.yield lp) #[] #[], .pointer (some ⟨Bl, 0, none⟩), .pointer (some ⟨Bt, 0, none⟩), .pointer (some ⟨W.heap.size, 0, none⟩), .int .i64 x, .agg #[.int .i64 L.span, .int .i64 L.po, .int .i64 L.org, .int .i64 L.c0, .int .i64 L.c1, .int .i64 L.c2, .func (.func L.f) #[] L.caps], .slice A n cap, .func (.func 95) #[] #[.pointer (some ⟨W.heap.size + 1 + 1, 0, none⟩), .pointer (some ⟨W.heap.size + 1, 0, none⟩)], .int .i64 x, undef, undef, undef, undef, undef, undef, undef, undef, undef, undef, undef, undef, undef], defers := [] })
      (fun _ x a' _ X Y row hs hg hr => hs)
      ?assign ?body ?done ?stop
  case assign =>
    rintro l2 xs x V K hI hY hK
    gi_wp2
    exact hK _ _ (KeepsFrom.refl _ _) ⟨kpP_refl _, KeepsFrom.refl _ _⟩ hI ⟨hY, rfl⟩
  case body =>
    rintro l2 xs x a' V hlo hrec ⟨hJV, hkp⟩ ⟨hxb, rfl⟩
    have HJV := hide hJV
    have hwv := (unhide HW0).kept (unhide HN) hkp
    have hlv := unhide HLp W0 V (Below.trans (unhide HWu) (Below.mono (unhide HU0) hsW)) hkp (unhide HL0)
    have hef := fun (q : UpW V) => unhide HEf q.v x (lnOk_up hlv q.up) (frs_up hwv.f q.up) hxb
    have y3 := bx_kpP (unhide HY3).1 hkp (unhide HY3).2
    have hyy := fun (q : UpW V) => unhide HY (xs.map (efp L ts)) (ef L x ts, x) q.v (unhide HJ _ _ _ _ (unhide HJV) (up_grP q.up) (fun r e => by cases e)) trivial
    have n0 : ∀ q : UpW V, q.v.cell? ⟨W.heap.size, 0, none⟩ = some (.func (.yield lp) #[] #[]) := fun q => bx1 (bx_up y3 q.up)
    have m0 : ∀ q : UpW V, q.v.cell? ⟨Bl, 0, none⟩ = some (.int .i64 L.span) := fun q => (bx_up hwv.l q.up 0 _ rfl).1
    have m1 : ∀ q : UpW V, q.v.cell? ⟨Bl, 1, none⟩ = some (.int .i64 L.po) := fun q => (bx_up hwv.l q.up 1 _ rfl).1
    have m2 : ∀ q : UpW V, q.v.cell? ⟨Bl, 2, none⟩ = some (.int .i64 L.org) := fun q => (bx_up hwv.l q.up 2 _ rfl).1
    have m3 : ∀ q : UpW V, q.v.cell? ⟨Bl, 3, none⟩ = some (.int .i64 L.c0) := fun q => (bx_up hwv.l q.up 3 _ rfl).1
    have m4 : ∀ q : UpW V, q.v.cell? ⟨Bl, 4, none⟩ = some (.int .i64 L.c1) := fun q => (bx_up hwv.l q.up 4 _ rfl).1
    have m5 : ∀ q : UpW V, q.v.cell? ⟨Bl, 5, none⟩ = some (.int .i64 L.c2) := fun q => (bx_up hwv.l q.up 5 _ rfl).1
    have m6 : ∀ q : UpW V, q.v.cell? ⟨Bl, 6, none⟩ = some (.func (.func L.f) #[] L.caps) := fun q => (bx_up hwv.l q.up 6 _ rfl).1
    have m7 : ∀ q : UpW V, q.v.cell? ⟨Bt, 0, none⟩ = some (.slice A n cap) := fun q => by rw [← unhide HNn]; exact up_cell q.up hwv.t
    have hfp : ∀ s, efp L ts s = (ef L s ts, s) := fun s => rfl
    obtain ⟨E, hE⟩ : ∃ E, ef L x ts = E := ⟨_, rfl⟩
    rw [hE] at hef hyy
    have hfx : (xs ++ [x]).map (efp L ts) = xs.map (efp L ts) ++ [(E, x)] := by rw [List.map_append, List.map_singleton, hfp, hE]
    have HFX := hide hfx
    have HEF := hide hef
    have HYY := hide hyy
    have HKP := hide hkp
    unfold lnV at HEF
    clear hE hef hyy hfp hfx hlv hwv y3 hkp hrec HW0 HL0 HJ00
    have h1' : 1 ≤ 8 - 1 - 1 := by omega
    gi_upto_region 3 with fail
    refine Hin.wpIn_region_lateM (S := fun w' => ∃ q : UpW V, w' = q.v) 11 1 #[true, true, true, true, true, true, true, true, true, true, true, true, false] (Hin.open_round l2) hmx (by kernel_rfl) (by simp only [List.take_succ_cons, List.take_zero]; rfl) rfl ⟨⟨_, up_drew (up_refl _)⟩, rfl⟩ ?_
    (repeat (go_big_quiet_step (first | (go_at_call 53; exact upq (unhide HEF _)))))
    refine wpQuiet_nil ⟨rfl, ?_⟩
    rintro _ ⟨pq, rfl⟩
    obtain ⟨fn, tm, asg, bo, hy, hR⟩ := unhide HYY pq
    unfold feV at hy
    have HR := hide hR
    clear hR n0 m0 m1 m2 m3 m4 m5 m6 m7
    go_simp
    refine roundIn_wide ((unhide HR).mono ?_)
    rintro e V2 hR
    obtain ⟨bv, rfl, h3⟩ := yield_casesP hR
    clear hR HR hy
    rcases h3 with ⟨rfl, hJ2, hk2⟩ | ⟨rfl, hJ2, hk2⟩
    · have HK2 := hide hk2
      rw [← unhide HFX] at hJ2
      have HJ2 := hide hJ2
      clear hk2 hJ2
      refine wpAnyIn_ready (rs := [12]) (by kernel_rfl) (by simp) ?_; refine AllReadyIn.cons rfl (fun K hK => ?_) AllReadyIn.nil; go_simp
      refine hK _ _ ?_
      clear hK K
      refine wpAnyIn_done (by kernel_rfl) ?_ _
      gi_wp2
      exact ⟨(up_kfP pq.up).trans (kf_mono (unhide HK2).2 (by omega)), kpQ_trans (kpQ_up pq.up) (kpQ_mono (unhide HK2) (by omega)), unhide HJ2, kpP_trans (unhide HKP) (kpP_trans (kpP_up pq.up) (unhide HK2).1)⟩
    · have HK2 := hide hk2
      rw [← unhide HFX] at hJ2
      have HJ2 := hide hJ2
      clear hk2 hJ2
      refine wpAnyIn_ready (rs := [12]) (by kernel_rfl) (by simp) ?_; refine AllReadyIn.cons rfl (fun K hK => ?_) AllReadyIn.nil; go_simp
      refine hK _ _ ?_
      clear hK K
      refine wpAnyIn_done (by kernel_rfl) ?_ _
      gi_wp2
      exact ⟨(up_kfP pq.up).trans (kf_mono (unhide HK2) (by omega)), rfl, unhide HJ2⟩
  case done =>
    rintro D xs V hD rfl ⟨hJV, hkp⟩ hK
    gi_wp2
    refine ⟨by simp, .inl ⟨_, _, rfl, run_takeDeferred hK, ?_⟩⟩
    exact ⟨_, results_none rfl _ _ _, ⟨_, rfl⟩, .inl ⟨_, rfl, (unhide HJ).putObj _ hJV (by omega) hK rfl⟩⟩
  case stop =>
    rintro D c xs V hD ⟨Dr, hx⟩ ⟨rfl, hX⟩ hK
    gi_wp2
    refine ⟨by simp, .inl ⟨_, _, rfl, run_takeDeferred hK, ?_⟩⟩
    exact ⟨_, results_none rfl _ _ _, ⟨_, rfl⟩, .inr ⟨_, ⟨Dr.map (efp L ts), by rw [← List.map_append, hx]; rfl⟩, (unhide HJx).putObj _ hX (by omega) hK rfl⟩⟩
end Go.Proofs.Ytdignnmhiifpgaa
