/- The line of an end. -/
import Derived.Test.YtdignnmhiifpgaaBrO
namespace Go.Proofs.Ytdignnmhiifpgaa
open Go.RowKit Go.Proofs.Gn
set_option linter.unusedVariables false
def enLn (right : Bool) (s : Nat) (org len : Int) (bl bs : Nat) : Ln := { span := s, po := if right then len else 0, org := org, c0 := 0, c1 := if right then len else 0, c2 := len, f := 81, caps := #[.pointer (some ⟨bl, 0, none⟩), .pointer (some ⟨bs, 0, none⟩)], val := enL right len }
theorem enLn_ok {right : Bool} {s : Nat} {org len : Int} {bl bs : Nat} {w : World} (hl : w.cell? ⟨bl, 0, none⟩ = some (.int .i64 len)) (hx : w.cell? ⟨bs, 0, none⟩ = some (shV6 right bl)) (h1 : 0 ≤ len ∧ len ≤ 131072) (h3 : 0 ≤ org ∧ org ≤ 1048576) : LnOk (enLn right s org len bl bs) w :=
  ⟨fun W hW a a1 a2 => (p_end3 right bl bs len a W (up_cell hW hl) (up_cell hW hx) h1).mono (fun e w' ⟨he, hw⟩ => ⟨he, hw ▸ up_refl W⟩),
   enters_of Try.func81 (by kernel_rfl) rfl, fun a => en_bd right a h1, h3⟩
theorem enLn_kp {right : Bool} {s : Nat} {org len : Int} {bl bs : Nat} {w : World} (hl : w.cell? ⟨bl, 0, none⟩ = some (.int .i64 len)) (hx : w.cell? ⟨bs, 0, none⟩ = some (shV6 right bl)) (h1 : 0 ≤ len ∧ len ≤ 131072) (h3 : 0 ≤ org ∧ org ≤ 1048576) :
    ∀ (p : Nat → Prop), (∀ k, p k → w.heap.size ≤ k) → ∀ W W', Below w.heap.size w W → KpP p W W' → LnOk (enLn right s org len bl bs) W → LnOk (enLn right s org len bl bs) W' := fun p hp W W' hb hk _ => by
  have b1 : bl < w.heap.size := World.block_lt_of_cell? _ _ hl
  have b2 : bs < w.heap.size := World.block_lt_of_cell? _ _ hx
  exact enLn_ok (kpP_cell hk (a := ⟨bl, 0, none⟩) (fun e => by have := hp _ e; simp only at this; omega) (up_cell hb hl)) (kpP_cell hk (a := ⟨bs, 0, none⟩) (fun e => by have := hp _ e; simp only at this; omega) (up_cell hb hx)) h1 h3
theorem enLn_co {right : Bool} {s : Nat} {org len : Int} {bl bs : Nat} (h1 : 0 ≤ len ∧ len ≤ 131072) (h3 : 0 ≤ org ∧ org ≤ 1048576) : CoOk (enLn right s org len bl bs) := by
  unfold CoOk enLn
  cases right <;> simp <;> omega
@[local go_sem] theorem run_store_fn7 {P : Program} {w : World} {a : Addr} {m : Mode} (fn : Fn) (first captured : Array Value) : (store a (.func fn first captured) m).run P w = stored P w a (.func fn first captured) m := run_store P w a _ m rfl
set_option maxRecDepth 100000 in
set_option maxHeartbeats 4000000 in
theorem p_ofEnd (b : Brg) (right : Bool) (s : Nat) (w : World) (h : BgAt w b) (hs : s < b.sp.length) (hn : b.sp.length ≤ 6) (hv : ∀ k (h : k < b.sp.length), 0 ≤ b.sp[k] ∧ b.sp[k] ≤ 131072) (hcap : b.sp.length ≤ b.k0) :
    Calls Try.prog 55 #[bgV b, .int .i64 s, .bool right] w fun e w' => ∃ bl bs, e = .returned (lnV (enLn right s (beS b.sp s) b.sp[s] bl bs)) ∧ Up w w' ∧ w'.cell? ⟨bl, 0, none⟩ = some (.int .i64 b.sp[s]) ∧ w'.cell? ⟨bs, 0, none⟩ = some (shV6 right bl) := by
  have HB := hide (fun W (hU : Up w W) => p_beginning b s W (bgAt_up h hU) hs hn hv hcap)
  obtain ⟨o, ho⟩ : ∃ o, beS b.sp s = o := ⟨_, rfl⟩
  rw [ho] at HB ⊢
  rcases h.s with hnil | ⟨B, off, hA, hcc⟩
  · rw [hnil] at hs; simp at hs
  have c0 := hcc s hs
  obtain ⟨v, hv2⟩ : ∃ v, b.sp[s] = v := ⟨_, rfl⟩
  rw [hv2] at c0 ⊢
  unfold lnV enLn shV6
  unfold bgV at HB ⊢
  rw [hA] at HB ⊢
  obtain ⟨n, hN⟩ : ∃ n, b.sp.length = n := ⟨_, rfl⟩
  rw [hN] at HB hs ⊢
  have i0 : (0 : Int) ≤ (s : Int) := by omega
  have i1 : (s : Int) < (n : Int) := by omega
  have i2 : (s : Int).toNat = s := by omega
  clear hN hv2 hA hcc ho hv hn hcap h hs
  have hmx : Try.prog.follows .mixedOrders = true := by kernel_rfl
  cases right
  · go_enter Try.func55, Try.ntmps55
    go_upto_region 1 with fail
    refine at_wpB (fun W1 hW1 => ?_)
    have U1 : Up w W1 := by rw [hW1]; exact (by repeat' (first | (with_reducible exact up_refl _) | (with_reducible assumption) | (with_reducible refine up_alloc ?_ _) | (with_reducible refine up_drewN ?_ _) | (with_reducible refine up_drew ?_) | (with_reducible refine up_set ?_ (by first | (simp; done) | (simp; omega) | omega) _) | (refine up_trans ?_ (by with_reducible assumption))))
    have c1 := up_cell U1 c0
    have hz1 : W1.heap.size = w.heap.size + 2 := by rw [hW1]; simp
    obtain ⟨m3, m6⟩ : Bx W1 w.heap.size [.slice (some ⟨B, off, none⟩) n b.k0, .slice b.A1 b.mo.length b.k1, .slice b.A2 b.sh.length b.k2, .int .i64 b.dy, .int .i64 b.la, .int .i64 b.tr] ∧ Bx W1 (w.heap.size + 1) [.int .i64 0, .int .i64 0, .int .i64 0, .int .i64 0, .int .i64 0, .int .i64 0, .nilFunc] := by
      rw [hW1]
      refine ⟨bx_alloc (bx_new w _ _) _, ?_⟩
      have t := bx_new (w.alloc (.cells #[.slice (some ⟨B, off, none⟩) n b.k0, .slice b.A1 b.mo.length b.k1, .slice b.A2 b.sh.length b.k2, .int .i64 b.dy, .int .i64 b.la, .int .i64 b.tr] 44)) [.int .i64 0, .int .i64 0, .int .i64 0, .int .i64 0, .int .i64 0, .int .i64 0, .nilFunc] 87
      rw [World.size_alloc] at t
      exact t
    obtain ⟨d0, d1, d2, d3, d4, d5⟩ := bgc m3
    clear hW1 c0
    go_upto_region 5 with fail
    refine at_wpB (fun W hW => ?_)
    have U2 : Up W1 W := by rw [hW]; exact up_alloc (up_alloc (up_refl W1) _) _
    have U : Up w W := up_trans U1 U2
    have n3 := bx_up m3 U2
    have n6 := bx_up m6 U2
    have n7 : Bx W (w.heap.size + 2) [.int .i64 v] := by rw [hW, ← hz1]; exact bx_alloc (bx_new W1 _ _) _
    have n9 : Bx W (w.heap.size + 2 + 1) [.func (.func 79) #[] #[.pointer (some ⟨w.heap.size + 2, 0, none⟩)]] := by
      rw [hW, ← hz1]
      have t := bx_new (W1.alloc (.cells #[.int .i64 v] 2)) [.func (.func 79) #[] #[.pointer (some ⟨W1.heap.size, 0, none⟩)]] 85
      rwa [World.size_alloc] at t
    clear hW d0 d1 d2 d3 d4 d5 m3 m6 c1 U1 U2 hz1
    have e0 : ∀ q : UpW W, q.v.cell? ⟨w.heap.size, 0, none⟩ = some (.slice (some ⟨B, off, none⟩) n b.k0) := fun q => (bx_up n3 q.up 0 _ rfl).1
    have e1 : ∀ q : UpW W, q.v.cell? ⟨w.heap.size, 1, none⟩ = some (.slice b.A1 b.mo.length b.k1) := fun q => (bx_up n3 q.up 1 _ rfl).1
    have e2 : ∀ q : UpW W, q.v.cell? ⟨w.heap.size, 2, none⟩ = some (.slice b.A2 b.sh.length b.k2) := fun q => (bx_up n3 q.up 2 _ rfl).1
    have e3 : ∀ q : UpW W, q.v.cell? ⟨w.heap.size, 3, none⟩ = some (.int .i64 b.dy) := fun q => (bx_up n3 q.up 3 _ rfl).1
    have e4 : ∀ q : UpW W, q.v.cell? ⟨w.heap.size, 4, none⟩ = some (.int .i64 b.la) := fun q => (bx_up n3 q.up 4 _ rfl).1
    have e5 : ∀ q : UpW W, q.v.cell? ⟨w.heap.size, 5, none⟩ = some (.int .i64 b.tr) := fun q => (bx_up n3 q.up 5 _ rfl).1
    have e7 : ∀ q : UpW W, q.v.cell? ⟨w.heap.size + 2, 0, none⟩ = some (.int .i64 v) := fun q => (bx_up n7 q.up 0 _ rfl).1
    have HBq := hide (fun q : UpW W => unhide HB q.v (up_trans U q.up))
    refine wp_late 10 hmx (by kernel_rfl) (by simp only [List.take_succ_cons, List.take_zero]; rfl) rfl ?_
    (repeat (go_big_quiet_step (first | (go_at_call 72; exact upq (unhide HBq _)))))
    refine wpQuiet_nil ⟨rfl, fun pq => ?_⟩
    have q6 := bx_up n6 pq.up
    have a0 := (q6 0 _ rfl).1
    have f0 := (q6 0 _ rfl).2
    have a1 := (q6 1 _ rfl).1
    have f1 := (q6 1 _ rfl).2
    have a2 := (q6 2 _ rfl).1
    have f2 := (q6 2 _ rfl).2
    have a3 := (q6 3 _ rfl).1
    have f3 := (q6 3 _ rfl).2
    have a4 := (q6 4 _ rfl).1
    have f4 := (q6 4 _ rfl).2
    have a5 := (q6 5 _ rfl).1
    have f5 := (q6 5 _ rfl).2
    have a6 := (q6 6 _ rfl).1
    have f6 := (q6 6 _ rfl).2
    have HU := hide (up_trans U pq.up)
    have H6 := hide q6
    have H7 := hide (bx_up n7 pq.up)
    have H9 := hide (bx_up n9 pq.up)
    clear n3 n6 n7 n9 e0 e1 e2 e3 e4 e5 e7 HBq HB q6 i0 i1 i2 hmx U hs
    go_simp
    have U9 : Up w (((((((pq.v.setCell ⟨w.heap.size + 1, 0, none⟩ (.int .i64 s)).setCell ⟨w.heap.size + 1, 1, none⟩ (.int .i64 0)).setCell ⟨w.heap.size + 1, 2, none⟩ (.int .i64 o)).setCell ⟨w.heap.size + 1, 3, none⟩ (.int .i64 0)).setCell ⟨w.heap.size + 1, 4, none⟩ (.int .i64 0)).setCell ⟨w.heap.size + 1, 5, none⟩ (.int .i64 v)).setCell ⟨w.heap.size + 1, 6, none⟩ (.func (.func 81) #[] #[.pointer (some ⟨w.heap.size + 2, 0, none⟩), .pointer (some ⟨w.heap.size + 2 + 1, 0, none⟩)])) := (up_set (up_set (up_set (up_set (up_set (up_set (up_set (unhide HU) (by simp only; omega) (.int .i64 s)) (by simp only; omega) (.int .i64 0)) (by simp only; omega) (.int .i64 o)) (by simp only; omega) (.int .i64 0)) (by simp only; omega) (.int .i64 0)) (by simp only; omega) (.int .i64 v)) (by simp only; omega) (.func (.func 81) #[] #[.pointer (some ⟨w.heap.size + 2, 0, none⟩), .pointer (some ⟨w.heap.size + 2 + 1, 0, none⟩)]))
    have B9 : Bx (((((((pq.v.setCell ⟨w.heap.size + 1, 0, none⟩ (.int .i64 s)).setCell ⟨w.heap.size + 1, 1, none⟩ (.int .i64 0)).setCell ⟨w.heap.size + 1, 2, none⟩ (.int .i64 o)).setCell ⟨w.heap.size + 1, 3, none⟩ (.int .i64 0)).setCell ⟨w.heap.size + 1, 4, none⟩ (.int .i64 0)).setCell ⟨w.heap.size + 1, 5, none⟩ (.int .i64 v)).setCell ⟨w.heap.size + 1, 6, none⟩ (.func (.func 81) #[] #[.pointer (some ⟨w.heap.size + 2, 0, none⟩), .pointer (some ⟨w.heap.size + 2 + 1, 0, none⟩)])) (w.heap.size + 1) [.int .i64 s, .int .i64 0, .int .i64 o, .int .i64 0, .int .i64 0, .int .i64 v, .func (.func 81) #[] #[.pointer (some ⟨w.heap.size + 2, 0, none⟩), .pointer (some ⟨w.heap.size + 2 + 1, 0, none⟩)]] := (bx_set (bx_set (bx_set (bx_set (bx_set (bx_set (bx_set (unhide H6) 0 (.int .i64 s)) 1 (.int .i64 0)) 2 (.int .i64 o)) 3 (.int .i64 0)) 4 (.int .i64 0)) 5 (.int .i64 v)) 6 (.func (.func 81) #[] #[.pointer (some ⟨w.heap.size + 2, 0, none⟩), .pointer (some ⟨w.heap.size + 2 + 1, 0, none⟩)]))
    have B5 : Bx (((((((pq.v.setCell ⟨w.heap.size + 1, 0, none⟩ (.int .i64 s)).setCell ⟨w.heap.size + 1, 1, none⟩ (.int .i64 0)).setCell ⟨w.heap.size + 1, 2, none⟩ (.int .i64 o)).setCell ⟨w.heap.size + 1, 3, none⟩ (.int .i64 0)).setCell ⟨w.heap.size + 1, 4, none⟩ (.int .i64 0)).setCell ⟨w.heap.size + 1, 5, none⟩ (.int .i64 v)).setCell ⟨w.heap.size + 1, 6, none⟩ (.func (.func 81) #[] #[.pointer (some ⟨w.heap.size + 2, 0, none⟩), .pointer (some ⟨w.heap.size + 2 + 1, 0, none⟩)])) _ _ := (bx_far (bx_far (bx_far (bx_far (bx_far (bx_far (bx_far (unhide H9) (p := ⟨w.heap.size + 1, 0, none⟩) (by simp only; omega) (.int .i64 s)) (p := ⟨w.heap.size + 1, 1, none⟩) (by simp only; omega) (.int .i64 0)) (p := ⟨w.heap.size + 1, 2, none⟩) (by simp only; omega) (.int .i64 o)) (p := ⟨w.heap.size + 1, 3, none⟩) (by simp only; omega) (.int .i64 0)) (p := ⟨w.heap.size + 1, 4, none⟩) (by simp only; omega) (.int .i64 0)) (p := ⟨w.heap.size + 1, 5, none⟩) (by simp only; omega) (.int .i64 v)) (p := ⟨w.heap.size + 1, 6, none⟩) (by simp only; omega) (.func (.func 81) #[] #[.pointer (some ⟨w.heap.size + 2, 0, none⟩), .pointer (some ⟨w.heap.size + 2 + 1, 0, none⟩)]))
    have B7 : Bx (((((((pq.v.setCell ⟨w.heap.size + 1, 0, none⟩ (.int .i64 s)).setCell ⟨w.heap.size + 1, 1, none⟩ (.int .i64 0)).setCell ⟨w.heap.size + 1, 2, none⟩ (.int .i64 o)).setCell ⟨w.heap.size + 1, 3, none⟩ (.int .i64 0)).setCell ⟨w.heap.size + 1, 4, none⟩ (.int .i64 0)).setCell ⟨w.heap.size + 1, 5, none⟩ (.int .i64 v)).setCell ⟨w.heap.size + 1, 6, none⟩ (.func (.func 81) #[] #[.pointer (some ⟨w.heap.size + 2, 0, none⟩), .pointer (some ⟨w.heap.size + 2 + 1, 0, none⟩)])) _ _ := (bx_far (bx_far (bx_far (bx_far (bx_far (bx_far (bx_far (unhide H7) (p := ⟨w.heap.size + 1, 0, none⟩) (by simp only; omega) (.int .i64 s)) (p := ⟨w.heap.size + 1, 1, none⟩) (by simp only; omega) (.int .i64 0)) (p := ⟨w.heap.size + 1, 2, none⟩) (by simp only; omega) (.int .i64 o)) (p := ⟨w.heap.size + 1, 3, none⟩) (by simp only; omega) (.int .i64 0)) (p := ⟨w.heap.size + 1, 4, none⟩) (by simp only; omega) (.int .i64 0)) (p := ⟨w.heap.size + 1, 5, none⟩) (by simp only; omega) (.int .i64 v)) (p := ⟨w.heap.size + 1, 6, none⟩) (by simp only; omega) (.func (.func 81) #[] #[.pointer (some ⟨w.heap.size + 2, 0, none⟩), .pointer (some ⟨w.heap.size + 2 + 1, 0, none⟩)]))
    obtain ⟨W9, hW9⟩ : ∃ W9, (((((((pq.v.setCell ⟨w.heap.size + 1, 0, none⟩ (.int .i64 s)).setCell ⟨w.heap.size + 1, 1, none⟩ (.int .i64 0)).setCell ⟨w.heap.size + 1, 2, none⟩ (.int .i64 o)).setCell ⟨w.heap.size + 1, 3, none⟩ (.int .i64 0)).setCell ⟨w.heap.size + 1, 4, none⟩ (.int .i64 0)).setCell ⟨w.heap.size + 1, 5, none⟩ (.int .i64 v)).setCell ⟨w.heap.size + 1, 6, none⟩ (.func (.func 81) #[] #[.pointer (some ⟨w.heap.size + 2, 0, none⟩), .pointer (some ⟨w.heap.size + 2 + 1, 0, none⟩)])) = W9 := ⟨_, rfl⟩
    rw [hW9] at U9 B9 B5 B7
    (try rw [hW9])
    clear hW9
    have z0 := (B9 0 _ rfl).1
    have z1 := (B9 1 _ rfl).1
    have z2 := (B9 2 _ rfl).1
    have z3 := (B9 3 _ rfl).1
    have z4 := (B9 4 _ rfl).1
    have z5 := (B9 5 _ rfl).1
    have z6 := (B9 6 _ rfl).1
    go_wp2
    (try simp only [Exit.inBlock, Exit.then])
    refine bodyPost_ret (v := .agg #[.int .i64 s, .int .i64 0, .int .i64 o, .int .i64 0, .int .i64 0, .int .i64 v, .func (.func 81) #[] #[.pointer (some ⟨w.heap.size + 2, 0, none⟩), .pointer (some ⟨w.heap.size + 2 + 1, 0, none⟩)]]) (by simp [results, Try.results55, go_sem, z0, z1, z2, z3, z4, z5, z6]) rfl ?_
    exact ⟨w.heap.size + 2, w.heap.size + 2 + 1, rfl, U9, bx1 B7, bx1 B5⟩
  · go_enter Try.func55, Try.ntmps55
    go_upto_region 1 with fail
    refine at_wpB (fun W1 hW1 => ?_)
    have U1 : Up w W1 := by rw [hW1]; exact (by repeat' (first | (with_reducible exact up_refl _) | (with_reducible assumption) | (with_reducible refine up_alloc ?_ _) | (with_reducible refine up_drewN ?_ _) | (with_reducible refine up_drew ?_) | (with_reducible refine up_set ?_ (by first | (simp; done) | (simp; omega) | omega) _) | (refine up_trans ?_ (by with_reducible assumption))))
    have c1 := up_cell U1 c0
    have hz1 : W1.heap.size = w.heap.size + 2 := by rw [hW1]; simp
    obtain ⟨m3, m6⟩ : Bx W1 w.heap.size [.slice (some ⟨B, off, none⟩) n b.k0, .slice b.A1 b.mo.length b.k1, .slice b.A2 b.sh.length b.k2, .int .i64 b.dy, .int .i64 b.la, .int .i64 b.tr] ∧ Bx W1 (w.heap.size + 1) [.int .i64 0, .int .i64 0, .int .i64 0, .int .i64 0, .int .i64 0, .int .i64 0, .nilFunc] := by
      rw [hW1]
      refine ⟨bx_alloc (bx_new w _ _) _, ?_⟩
      have t := bx_new (w.alloc (.cells #[.slice (some ⟨B, off, none⟩) n b.k0, .slice b.A1 b.mo.length b.k1, .slice b.A2 b.sh.length b.k2, .int .i64 b.dy, .int .i64 b.la, .int .i64 b.tr] 44)) [.int .i64 0, .int .i64 0, .int .i64 0, .int .i64 0, .int .i64 0, .int .i64 0, .nilFunc] 87
      rw [World.size_alloc] at t
      exact t
    obtain ⟨d0, d1, d2, d3, d4, d5⟩ := bgc m3
    clear hW1 c0
    go_upto_region 5 with fail
    refine at_wpB (fun W hW => ?_)
    have U2 : Up W1 W := by rw [hW]; exact up_alloc (up_alloc (up_refl W1) _) _
    have U : Up w W := up_trans U1 U2
    have n3 := bx_up m3 U2
    have n6 := bx_up m6 U2
    have n7 : Bx W (w.heap.size + 2) [.int .i64 v] := by rw [hW, ← hz1]; exact bx_alloc (bx_new W1 _ _) _
    have n9 : Bx W (w.heap.size + 2 + 1) [.func (.func 80) #[] #[]] := by
      rw [hW, ← hz1]
      have t := bx_new (W1.alloc (.cells #[.int .i64 v] 2)) [.func (.func 80) #[] #[]] 85
      rwa [World.size_alloc] at t
    clear hW d0 d1 d2 d3 d4 d5 m3 m6 c1 U1 U2 hz1
    have e0 : ∀ q : UpW W, q.v.cell? ⟨w.heap.size, 0, none⟩ = some (.slice (some ⟨B, off, none⟩) n b.k0) := fun q => (bx_up n3 q.up 0 _ rfl).1
    have e1 : ∀ q : UpW W, q.v.cell? ⟨w.heap.size, 1, none⟩ = some (.slice b.A1 b.mo.length b.k1) := fun q => (bx_up n3 q.up 1 _ rfl).1
    have e2 : ∀ q : UpW W, q.v.cell? ⟨w.heap.size, 2, none⟩ = some (.slice b.A2 b.sh.length b.k2) := fun q => (bx_up n3 q.up 2 _ rfl).1
    have e3 : ∀ q : UpW W, q.v.cell? ⟨w.heap.size, 3, none⟩ = some (.int .i64 b.dy) := fun q => (bx_up n3 q.up 3 _ rfl).1
    have e4 : ∀ q : UpW W, q.v.cell? ⟨w.heap.size, 4, none⟩ = some (.int .i64 b.la) := fun q => (bx_up n3 q.up 4 _ rfl).1
    have e5 : ∀ q : UpW W, q.v.cell? ⟨w.heap.size, 5, none⟩ = some (.int .i64 b.tr) := fun q => (bx_up n3 q.up 5 _ rfl).1
    have e7 : ∀ q : UpW W, q.v.cell? ⟨w.heap.size + 2, 0, none⟩ = some (.int .i64 v) := fun q => (bx_up n7 q.up 0 _ rfl).1
    have HBq := hide (fun q : UpW W => unhide HB q.v (up_trans U q.up))
    refine wp_late 10 hmx (by kernel_rfl) (by simp only [List.take_succ_cons, List.take_zero]; rfl) rfl ?_
    (repeat (go_big_quiet_step (first | (go_at_call 72; exact upq (unhide HBq _)))))
    refine wpQuiet_nil ⟨rfl, fun pq => ?_⟩
    have q6 := bx_up n6 pq.up
    have a0 := (q6 0 _ rfl).1
    have f0 := (q6 0 _ rfl).2
    have a1 := (q6 1 _ rfl).1
    have f1 := (q6 1 _ rfl).2
    have a2 := (q6 2 _ rfl).1
    have f2 := (q6 2 _ rfl).2
    have a3 := (q6 3 _ rfl).1
    have f3 := (q6 3 _ rfl).2
    have a4 := (q6 4 _ rfl).1
    have f4 := (q6 4 _ rfl).2
    have a5 := (q6 5 _ rfl).1
    have f5 := (q6 5 _ rfl).2
    have a6 := (q6 6 _ rfl).1
    have f6 := (q6 6 _ rfl).2
    have HU := hide (up_trans U pq.up)
    have H6 := hide q6
    have H7 := hide (bx_up n7 pq.up)
    have H9 := hide (bx_up n9 pq.up)
    clear n3 n6 n7 n9 e0 e1 e2 e3 e4 e5 e7 HBq HB q6 i0 i1 i2 hmx U hs
    go_simp
    have U9 : Up w (((((((pq.v.setCell ⟨w.heap.size + 1, 0, none⟩ (.int .i64 s)).setCell ⟨w.heap.size + 1, 1, none⟩ (.int .i64 v)).setCell ⟨w.heap.size + 1, 2, none⟩ (.int .i64 o)).setCell ⟨w.heap.size + 1, 3, none⟩ (.int .i64 0)).setCell ⟨w.heap.size + 1, 4, none⟩ (.int .i64 v)).setCell ⟨w.heap.size + 1, 5, none⟩ (.int .i64 v)).setCell ⟨w.heap.size + 1, 6, none⟩ (.func (.func 81) #[] #[.pointer (some ⟨w.heap.size + 2, 0, none⟩), .pointer (some ⟨w.heap.size + 2 + 1, 0, none⟩)])) := (up_set (up_set (up_set (up_set (up_set (up_set (up_set (unhide HU) (by simp only; omega) (.int .i64 s)) (by simp only; omega) (.int .i64 v)) (by simp only; omega) (.int .i64 o)) (by simp only; omega) (.int .i64 0)) (by simp only; omega) (.int .i64 v)) (by simp only; omega) (.int .i64 v)) (by simp only; omega) (.func (.func 81) #[] #[.pointer (some ⟨w.heap.size + 2, 0, none⟩), .pointer (some ⟨w.heap.size + 2 + 1, 0, none⟩)]))
    have B9 : Bx (((((((pq.v.setCell ⟨w.heap.size + 1, 0, none⟩ (.int .i64 s)).setCell ⟨w.heap.size + 1, 1, none⟩ (.int .i64 v)).setCell ⟨w.heap.size + 1, 2, none⟩ (.int .i64 o)).setCell ⟨w.heap.size + 1, 3, none⟩ (.int .i64 0)).setCell ⟨w.heap.size + 1, 4, none⟩ (.int .i64 v)).setCell ⟨w.heap.size + 1, 5, none⟩ (.int .i64 v)).setCell ⟨w.heap.size + 1, 6, none⟩ (.func (.func 81) #[] #[.pointer (some ⟨w.heap.size + 2, 0, none⟩), .pointer (some ⟨w.heap.size + 2 + 1, 0, none⟩)])) (w.heap.size + 1) [.int .i64 s, .int .i64 v, .int .i64 o, .int .i64 0, .int .i64 v, .int .i64 v, .func (.func 81) #[] #[.pointer (some ⟨w.heap.size + 2, 0, none⟩), .pointer (some ⟨w.heap.size + 2 + 1, 0, none⟩)]] := (bx_set (bx_set (bx_set (bx_set (bx_set (bx_set (bx_set (unhide H6) 0 (.int .i64 s)) 1 (.int .i64 v)) 2 (.int .i64 o)) 3 (.int .i64 0)) 4 (.int .i64 v)) 5 (.int .i64 v)) 6 (.func (.func 81) #[] #[.pointer (some ⟨w.heap.size + 2, 0, none⟩), .pointer (some ⟨w.heap.size + 2 + 1, 0, none⟩)]))
    have B5 : Bx (((((((pq.v.setCell ⟨w.heap.size + 1, 0, none⟩ (.int .i64 s)).setCell ⟨w.heap.size + 1, 1, none⟩ (.int .i64 v)).setCell ⟨w.heap.size + 1, 2, none⟩ (.int .i64 o)).setCell ⟨w.heap.size + 1, 3, none⟩ (.int .i64 0)).setCell ⟨w.heap.size + 1, 4, none⟩ (.int .i64 v)).setCell ⟨w.heap.size + 1, 5, none⟩ (.int .i64 v)).setCell ⟨w.heap.size + 1, 6, none⟩ (.func (.func 81) #[] #[.pointer (some ⟨w.heap.size + 2, 0, none⟩), .pointer (some ⟨w.heap.size + 2 + 1, 0, none⟩)])) _ _ := (bx_far (bx_far (bx_far (bx_far (bx_far (bx_far (bx_far (unhide H9) (p := ⟨w.heap.size + 1, 0, none⟩) (by simp only; omega) (.int .i64 s)) (p := ⟨w.heap.size + 1, 1, none⟩) (by simp only; omega) (.int .i64 v)) (p := ⟨w.heap.size + 1, 2, none⟩) (by simp only; omega) (.int .i64 o)) (p := ⟨w.heap.size + 1, 3, none⟩) (by simp only; omega) (.int .i64 0)) (p := ⟨w.heap.size + 1, 4, none⟩) (by simp only; omega) (.int .i64 v)) (p := ⟨w.heap.size + 1, 5, none⟩) (by simp only; omega) (.int .i64 v)) (p := ⟨w.heap.size + 1, 6, none⟩) (by simp only; omega) (.func (.func 81) #[] #[.pointer (some ⟨w.heap.size + 2, 0, none⟩), .pointer (some ⟨w.heap.size + 2 + 1, 0, none⟩)]))
    have B7 : Bx (((((((pq.v.setCell ⟨w.heap.size + 1, 0, none⟩ (.int .i64 s)).setCell ⟨w.heap.size + 1, 1, none⟩ (.int .i64 v)).setCell ⟨w.heap.size + 1, 2, none⟩ (.int .i64 o)).setCell ⟨w.heap.size + 1, 3, none⟩ (.int .i64 0)).setCell ⟨w.heap.size + 1, 4, none⟩ (.int .i64 v)).setCell ⟨w.heap.size + 1, 5, none⟩ (.int .i64 v)).setCell ⟨w.heap.size + 1, 6, none⟩ (.func (.func 81) #[] #[.pointer (some ⟨w.heap.size + 2, 0, none⟩), .pointer (some ⟨w.heap.size + 2 + 1, 0, none⟩)])) _ _ := (bx_far (bx_far (bx_far (bx_far (bx_far (bx_far (bx_far (unhide H7) (p := ⟨w.heap.size + 1, 0, none⟩) (by simp only; omega) (.int .i64 s)) (p := ⟨w.heap.size + 1, 1, none⟩) (by simp only; omega) (.int .i64 v)) (p := ⟨w.heap.size + 1, 2, none⟩) (by simp only; omega) (.int .i64 o)) (p := ⟨w.heap.size + 1, 3, none⟩) (by simp only; omega) (.int .i64 0)) (p := ⟨w.heap.size + 1, 4, none⟩) (by simp only; omega) (.int .i64 v)) (p := ⟨w.heap.size + 1, 5, none⟩) (by simp only; omega) (.int .i64 v)) (p := ⟨w.heap.size + 1, 6, none⟩) (by simp only; omega) (.func (.func 81) #[] #[.pointer (some ⟨w.heap.size + 2, 0, none⟩), .pointer (some ⟨w.heap.size + 2 + 1, 0, none⟩)]))
    obtain ⟨W9, hW9⟩ : ∃ W9, (((((((pq.v.setCell ⟨w.heap.size + 1, 0, none⟩ (.int .i64 s)).setCell ⟨w.heap.size + 1, 1, none⟩ (.int .i64 v)).setCell ⟨w.heap.size + 1, 2, none⟩ (.int .i64 o)).setCell ⟨w.heap.size + 1, 3, none⟩ (.int .i64 0)).setCell ⟨w.heap.size + 1, 4, none⟩ (.int .i64 v)).setCell ⟨w.heap.size + 1, 5, none⟩ (.int .i64 v)).setCell ⟨w.heap.size + 1, 6, none⟩ (.func (.func 81) #[] #[.pointer (some ⟨w.heap.size + 2, 0, none⟩), .pointer (some ⟨w.heap.size + 2 + 1, 0, none⟩)])) = W9 := ⟨_, rfl⟩
    rw [hW9] at U9 B9 B5 B7
    (try rw [hW9])
    clear hW9
    have z0 := (B9 0 _ rfl).1
    have z1 := (B9 1 _ rfl).1
    have z2 := (B9 2 _ rfl).1
    have z3 := (B9 3 _ rfl).1
    have z4 := (B9 4 _ rfl).1
    have z5 := (B9 5 _ rfl).1
    have z6 := (B9 6 _ rfl).1
    go_wp2
    (try simp only [Exit.inBlock, Exit.then])
    refine bodyPost_ret (v := .agg #[.int .i64 s, .int .i64 v, .int .i64 o, .int .i64 0, .int .i64 v, .int .i64 v, .func (.func 81) #[] #[.pointer (some ⟨w.heap.size + 2, 0, none⟩), .pointer (some ⟨w.heap.size + 2 + 1, 0, none⟩)]]) (by simp [results, Try.results55, go_sem, z0, z1, z2, z3, z4, z5, z6]) rfl ?_
    exact ⟨w.heap.size + 2, w.heap.size + 2 + 1, rfl, U9, bx1 B7, bx1 B5⟩
end Go.Proofs.Ytdignnmhiifpgaa
