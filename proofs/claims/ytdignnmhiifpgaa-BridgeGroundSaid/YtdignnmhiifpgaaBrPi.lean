/- The line of a pier. -/
import Derived.Test.YtdignnmhiifpgaaBrMx
import Derived.Test.YtdignnmhiifpgaaBrMo
namespace Go.Proofs.Ytdignnmhiifpgaa
open Go.RowKit Go.Proofs.Gn
attribute [local go_sem] Oper.semAt_some run_store_fn6
set_option linter.unusedVariables false
theorem p_pier1 (bl bm : Nat) (l m a : Int) (w : World) (hl : w.cell? ⟨bl, 0, none⟩ = some (.int .i64 l)) (hm : w.cell? ⟨bm, 0, none⟩ = some (.int .i64 m)) (h1 : 0 ≤ l ∧ l ≤ 131072) (h2 : 0 ≤ m ∧ m ≤ 131072) (h3 : -8388608 ≤ a ∧ a ≤ 8388608) :
    Calls Try.prog 82 #[.int .i64 a, .pointer (some ⟨bm, 0, none⟩), .pointer (some ⟨bl, 0, none⟩)] w fun e w' => e = .returned (.int .i64 (piL l m a)) ∧ w = w' := by
  unfold piL
  have w1 : IntKind.i64.wrap (l + a) = l + a := IntWalk.i64_in _ ⟨by omega, by omega⟩
  have w2 : IntKind.i64.wrap (m - a) = m - a := IntWalk.i64_in _ ⟨by omega, by omega⟩
  have b1 := mul_in (a := m) (b := l + a) ⟨by omega, by omega⟩ ⟨by omega, by omega⟩
  have b2 := mul_in (a := l) (b := m - a) ⟨by omega, by omega⟩ ⟨by omega, by omega⟩
  have w3 : IntKind.i64.wrap (m * (l + a)) = m * (l + a) := IntWalk.i64_in _ ⟨by omega, by omega⟩
  have w4 : IntKind.i64.wrap (l * (m - a)) = l * (m - a) := IntWalk.i64_in _ ⟨by omega, by omega⟩
  have HT := hide (fun W => p_tent (m * (l + a)) (l * (m - a)) W)
  clear b1 b2 h1 h2 h3
  go_enter Try.func82, Try.ntmps82
  go_wp2_with (go_at_call 74; (with_reducible refine (unhide HT _).mono ?_); rintro e w1 ⟨rfl, rfl⟩)
  go_ret
  exact ⟨rfl, rfl⟩
theorem pi_bd {l m : Int} (a : Int) (h1 : 0 ≤ l ∧ l ≤ 131072) (h2 : 0 ≤ m ∧ m ≤ 131072) : 0 ≤ piL l m a ∧ piL l m a ≤ 17179869184 := by
  refine ⟨tnt_nn _ _, ?_⟩
  by_cases c0 : a ≤ -l
  · rw [piL_lo h2.1 c0]; decide
  by_cases c1 : m ≤ a
  · rw [piL_hi h1.1 c1]; decide
  by_cases c2 : a ≤ 0
  · rw [piL_up h1.1 h2.1 ⟨by omega, c2⟩]
    have : m * (l + a) ≤ 131072 * 131072 := Int.mul_le_mul h2.2 (by omega) (by omega) (by omega)
    omega
  · rw [piL_dn h1.1 h2.1 ⟨by omega, by omega⟩]
    have : l * (m - a) ≤ 131072 * 131072 := Int.mul_le_mul h1.2 (by omega) (by omega) (by omega)
    omega
def piLn (s : Nat) (org l m : Int) (bl bm : Nat) : Ln := { span := s, po := 0, org := org, c0 := -l, c1 := 0, c2 := m, f := 82, caps := #[.pointer (some ⟨bm, 0, none⟩), .pointer (some ⟨bl, 0, none⟩)], val := piL l m }
theorem piLn_ok {s : Nat} {org l m : Int} {bl bm : Nat} {w : World} (hl : w.cell? ⟨bl, 0, none⟩ = some (.int .i64 l)) (hx : w.cell? ⟨bm, 0, none⟩ = some (.int .i64 m)) (h1 : 0 ≤ l ∧ l ≤ 131072) (h2 : 0 ≤ m ∧ m ≤ 131072) (h3 : 0 ≤ org ∧ org ≤ 1048576) : LnOk (piLn s org l m bl bm) w :=
  ⟨fun W hW a a1 a2 => (p_pier1 bl bm l m a W (up_cell hW hl) (up_cell hW hx) h1 h2 ⟨a1, a2⟩).mono (fun e w' ⟨he, hw⟩ => ⟨he, hw ▸ up_refl W⟩),
   enters_of Try.func82 (by kernel_rfl) rfl, fun a => pi_bd a h1 h2, h3⟩
theorem piLn_kp {s : Nat} {org l m : Int} {bl bm : Nat} {w : World} (hl : w.cell? ⟨bl, 0, none⟩ = some (.int .i64 l)) (hx : w.cell? ⟨bm, 0, none⟩ = some (.int .i64 m)) (h1 : 0 ≤ l ∧ l ≤ 131072) (h2 : 0 ≤ m ∧ m ≤ 131072) (h3 : 0 ≤ org ∧ org ≤ 1048576) :
    ∀ (p : Nat → Prop), (∀ k, p k → w.heap.size ≤ k) → ∀ W W', Below w.heap.size w W → KpP p W W' → LnOk (piLn s org l m bl bm) W → LnOk (piLn s org l m bl bm) W' := fun p hp W W' hb hk _ => by
  have b1 : bl < w.heap.size := World.block_lt_of_cell? _ _ hl
  have b2 : bm < w.heap.size := World.block_lt_of_cell? _ _ hx
  exact piLn_ok (kpP_cell hk (a := ⟨bl, 0, none⟩) (fun e => by have := hp _ e; simp only at this; omega) (up_cell hb hl)) (kpP_cell hk (a := ⟨bm, 0, none⟩) (fun e => by have := hp _ e; simp only at this; omega) (up_cell hb hx)) h1 h2 h3
theorem piLn_co {s : Nat} {org l m : Int} {bl bm : Nat} (h1 : 0 ≤ l ∧ l ≤ 131072) (h2 : 0 ≤ m ∧ m ≤ 131072) (h3 : 0 ≤ org ∧ org ≤ 1048576) : CoOk (piLn s org l m bl bm) := by
  unfold CoOk piLn
  dsimp only
  omega
theorem piLn_cv {s : Nat} {org l m : Int} {bl bm : Nat} (h1 : 0 ≤ l) (h2 : 0 ≤ m) : LnCv (piLn s org l m bl bm) :=
  ⟨fun a0 a a1 h0 h3 k0 k1 k2 => pi_cv h1 h2 h0 h3 k0 k1 k2, fun a h0 _ _ => piL_lo h2 (by simp only [piLn] at h0; omega), fun a _ _ h4 => piL_hi h1 (by simp only [piLn] at h4; omega), fun a => tnt_nn _ _⟩
set_option maxRecDepth 100000 in
set_option maxHeartbeats 4000000 in
theorem p_ofPier (b : Brg) (s : Nat) (w : World) (h : BgAt w b) (hs : s + 1 < b.sp.length) (hn : b.sp.length ≤ 6) (hv : ∀ k (h : k < b.sp.length), 0 ≤ b.sp[k] ∧ b.sp[k] ≤ 131072) (hcap : b.sp.length ≤ b.k0) :
    Calls Try.prog 57 #[bgV b, .int .i64 s] w fun e w' => ∃ bl bm, e = .returned (lnV (piLn s (beS b.sp (s + 1)) b.sp[s] b.sp[s + 1] bl bm)) ∧ Up w w' ∧ w'.cell? ⟨bl, 0, none⟩ = some (.int .i64 b.sp[s]) ∧ w'.cell? ⟨bm, 0, none⟩ = some (.int .i64 b.sp[s + 1]) := by
  have HB := hide (fun W (hU : Up w W) => p_beginning b (s + 1) W (bgAt_up h hU) hs hn hv hcap)
  obtain ⟨o, ho⟩ : ∃ o, beS b.sp (s + 1) = o := ⟨_, rfl⟩
  rw [ho] at HB ⊢
  rcases h.s with hnil | ⟨B, off, hA, hcc⟩
  · rw [hnil] at hs; simp at hs
  have hs0 : s < b.sp.length := by omega
  have c0 := hcc s hs0
  have c1 := hcc (s + 1) hs
  have hvl := hv s hs0
  obtain ⟨v, hv2⟩ : ∃ v, b.sp[s] = v := ⟨_, rfl⟩
  obtain ⟨u, hu2⟩ : ∃ v, b.sp[s + 1] = v := ⟨_, rfl⟩
  rw [hv2] at c0 hvl ⊢
  rw [hu2] at c1 ⊢
  unfold lnV piLn
  unfold bgV at HB ⊢
  rw [hA] at HB ⊢
  obtain ⟨n, hN⟩ : ∃ n, b.sp.length = n := ⟨_, rfl⟩
  rw [hN] at HB hs hn ⊢
  have i0 : (0 : Int) ≤ (s : Int) := by omega
  have i1 : (s : Int) < (n : Int) := by omega
  have i2 : (s : Int).toNat = s := by omega
  have i3 : IntKind.i64.wrap ((s : Int) + 1) = (s : Int) + 1 := IntWalk.i64_in _ ⟨by omega, by omega⟩
  have i4 : (0 : Int) ≤ (s : Int) + 1 := by omega
  have i5 : (s : Int) + 1 < (n : Int) := by omega
  have i6 : ((s : Int) + 1).toNat = s + 1 := by omega
  have i7 : IntKind.i64.wrap (-v) = -v := IntWalk.i64_in _ ⟨by omega, by omega⟩
  have i8 : ((s + 1 : Nat) : Int) = (s : Int) + 1 := by omega
  rw [i8] at HB
  clear hN hv2 hu2 hA hcc ho hv hn hcap h hs hs0 hvl i8
  have hmx : Try.prog.follows .mixedOrders = true := by kernel_rfl
  go_enter Try.func57, Try.ntmps57
  go_upto_region 1 with fail
  refine at_wpB (fun W1 hW1 => ?_)
  have U1 : Up w W1 := by rw [hW1]; exact (by repeat' (first | (with_reducible exact up_refl _) | (with_reducible assumption) | (with_reducible refine up_alloc ?_ _) | (with_reducible refine up_drewN ?_ _) | (with_reducible refine up_drew ?_) | (with_reducible refine up_set ?_ (by first | (simp; done) | (simp; omega) | omega) _) | (refine up_trans ?_ (by with_reducible assumption))))
  have c0 := up_cell U1 c0
  have c1 := up_cell U1 c1
  have hz1 : W1.heap.size = w.heap.size + 2 := by rw [hW1]; simp
  obtain ⟨m3, m6⟩ : Bx W1 w.heap.size [.slice (some ⟨B, off, none⟩) n b.k0, .slice b.A1 b.mo.length b.k1, .slice b.A2 b.sh.length b.k2, .int .i64 b.dy, .int .i64 b.la, .int .i64 b.tr] ∧ Bx W1 (w.heap.size + 1) [.int .i64 0, .int .i64 0, .int .i64 0, .int .i64 0, .int .i64 0, .int .i64 0, .nilFunc] := by
    rw [hW1]
    refine ⟨bx_alloc (bx_new w _ _) _, ?_⟩
    have t := bx_new (w.alloc (.cells #[.slice (some ⟨B, off, none⟩) n b.k0, .slice b.A1 b.mo.length b.k1, .slice b.A2 b.sh.length b.k2, .int .i64 b.dy, .int .i64 b.la, .int .i64 b.tr] 44)) [.int .i64 0, .int .i64 0, .int .i64 0, .int .i64 0, .int .i64 0, .int .i64 0, .nilFunc] 87
    rw [World.size_alloc] at t
    exact t
  obtain ⟨d0, d1, d2, d3, d4, d5⟩ := bgc m3
  have j0 : B < w.heap.size + 2 := by have := World.block_lt_of_cell? _ _ c0; simp only at this; omega
  clear hW1
  go_cut [5, 6] (fun s5 s6 wx => ∃ b5 b6 : Nat, s5 = .pointer (some ⟨b5, 0, none⟩) ∧ s6 = .pointer (some ⟨b6, 0, none⟩) ∧ Bx wx b5 [.int .i64 v] ∧ Bx wx b6 [.int .i64 u] ∧ w.heap.size + 1 < b5 ∧ w.heap.size + 1 < b6 ∧ Up W1 wx)
  case first =>
    clear HB m3 m6
    go_region
    · go_wp2_with fail
      go_meet
      refine ⟨w.heap.size + 2, w.heap.size + 2 + 1, rfl, rfl, bx_up (bx_alloc ?_ _) (up_drew (up_refl _)), bx_up ?_ (up_drew (up_refl _)), ?_, ?_, (by repeat' (first | (with_reducible exact up_refl _) | (with_reducible assumption) | (with_reducible refine up_alloc ?_ _) | (with_reducible refine up_drewN ?_ _) | (with_reducible refine up_drew ?_) | (with_reducible refine up_set ?_ (by first | (simp; done) | (simp; omega) | omega) _) | (refine up_trans ?_ (by with_reducible assumption))))⟩
      · rw [← hz1]; exact bx_new W1 _ _
      · have t := bx_new (W1.alloc (.cells #[.int .i64 v] 2)) [.int .i64 u] 2
        rw [World.size_alloc, hz1] at t
        exact t
      · omega
      · omega
    · go_wp2_with fail
      go_meet
      refine ⟨w.heap.size + 2 + 1, w.heap.size + 2, rfl, rfl, bx_up ?_ (up_drew (up_refl _)), bx_up (bx_alloc ?_ _) (up_drew (up_refl _)), ?_, ?_, (by repeat' (first | (with_reducible exact up_refl _) | (with_reducible assumption) | (with_reducible refine up_alloc ?_ _) | (with_reducible refine up_drewN ?_ _) | (with_reducible refine up_drew ?_) | (with_reducible refine up_set ?_ (by first | (simp; done) | (simp; omega) | omega) _) | (refine up_trans ?_ (by with_reducible assumption))))⟩
      · have t := bx_new (W1.alloc (.cells #[.int .i64 u] 2)) [.int .i64 v] 2
        rw [World.size_alloc, hz1] at t
        exact t
      · rw [← hz1]; exact bx_new W1 _ _
      · omega
      · omega
  case rest =>
  obtain ⟨b5, b6, rfl, rfl, n5, n7, hb5, hb6, U2⟩ := hcut
  have U := up_trans U1 U2
  have n3 := bx_up m3 U2
  have n6 := bx_up m6 U2
  clear d0 d1 d2 d3 d4 d5 m3 m6 c1 c0 U1 U2 hz1
  have e0 : ∀ q : UpW wc, q.v.cell? ⟨w.heap.size, 0, none⟩ = some (.slice (some ⟨B, off, none⟩) n b.k0) := fun q => (bx_up n3 q.up 0 _ rfl).1
  have e1 : ∀ q : UpW wc, q.v.cell? ⟨w.heap.size, 1, none⟩ = some (.slice b.A1 b.mo.length b.k1) := fun q => (bx_up n3 q.up 1 _ rfl).1
  have e2 : ∀ q : UpW wc, q.v.cell? ⟨w.heap.size, 2, none⟩ = some (.slice b.A2 b.sh.length b.k2) := fun q => (bx_up n3 q.up 2 _ rfl).1
  have e3 : ∀ q : UpW wc, q.v.cell? ⟨w.heap.size, 3, none⟩ = some (.int .i64 b.dy) := fun q => (bx_up n3 q.up 3 _ rfl).1
  have e4 : ∀ q : UpW wc, q.v.cell? ⟨w.heap.size, 4, none⟩ = some (.int .i64 b.la) := fun q => (bx_up n3 q.up 4 _ rfl).1
  have e5 : ∀ q : UpW wc, q.v.cell? ⟨w.heap.size, 5, none⟩ = some (.int .i64 b.tr) := fun q => (bx_up n3 q.up 5 _ rfl).1
  have e6 : ∀ q : UpW wc, q.v.cell? ⟨b5, 0, none⟩ = some (.int .i64 v) := fun q => (bx_up n5 q.up 0 _ rfl).1
  have e7 : ∀ q : UpW wc, q.v.cell? ⟨b6, 0, none⟩ = some (.int .i64 u) := fun q => (bx_up n7 q.up 0 _ rfl).1
  have HBq := hide (fun q : UpW wc => unhide HB q.v (up_trans U q.up))
  go_upto_region 2 with fail
  refine wp_late 11 hmx (by kernel_rfl) (by simp only [List.take_succ_cons, List.take_zero]; rfl) rfl ?_
  (repeat (go_big_quiet_step (first | (go_at_call 72; exact upq (unhide HBq _)))))
  refine wpQuiet_nil ⟨rfl, fun pq => ?_⟩
  have q6 := bx_up n6 pq.up
  have a0 := (q6 0 _ rfl).1
  have f0 := (q6 0 _ rfl).2
  have a1 := (q6 1 _ rfl).1
  have f1 := (q6 1 _ rfl).2
  have a2 := (q6 2 _ rfl).1
  have f2 := (q6 2 _ rfl).2
  have a3 := (q6 3 _ rfl).1
  have f3 := (q6 3 _ rfl).2
  have a4 := (q6 4 _ rfl).1
  have f4 := (q6 4 _ rfl).2
  have a5 := (q6 5 _ rfl).1
  have f5 := (q6 5 _ rfl).2
  have a6 := (q6 6 _ rfl).1
  have f6 := (q6 6 _ rfl).2
  have HU := hide (up_trans U pq.up)
  have H6 := hide q6
  have H5 := hide (bx_up n5 pq.up)
  have H7 := hide (bx_up n7 pq.up)
  clear n3 n5 n6 n7 e0 e1 e2 e3 e4 e5 e6 e7 HBq HB q6 i0 i1 i2 i3 i4 i5 i6 i7 hmx U hs
  go_simp
  have U9 : Up w (((((((pq.v.setCell ⟨w.heap.size + 1, 0, none⟩ (.int .i64 s)).setCell ⟨w.heap.size + 1, 1, none⟩ (.int .i64 0)).setCell ⟨w.heap.size + 1, 2, none⟩ (.int .i64 o)).setCell ⟨w.heap.size + 1, 3, none⟩ (.int .i64 (-v))).setCell ⟨w.heap.size + 1, 4, none⟩ (.int .i64 0)).setCell ⟨w.heap.size + 1, 5, none⟩ (.int .i64 u)).setCell ⟨w.heap.size + 1, 6, none⟩ (.func (.func 82) #[] #[.pointer (some ⟨b6, 0, none⟩), .pointer (some ⟨b5, 0, none⟩)])) := (up_set (up_set (up_set (up_set (up_set (up_set (up_set (unhide HU) (by simp only; omega) (.int .i64 s)) (by simp only; omega) (.int .i64 0)) (by simp only; omega) (.int .i64 o)) (by simp only; omega) (.int .i64 (-v))) (by simp only; omega) (.int .i64 0)) (by simp only; omega) (.int .i64 u)) (by simp only; omega) (.func (.func 82) #[] #[.pointer (some ⟨b6, 0, none⟩), .pointer (some ⟨b5, 0, none⟩)]))
  have B9 : Bx (((((((pq.v.setCell ⟨w.heap.size + 1, 0, none⟩ (.int .i64 s)).setCell ⟨w.heap.size + 1, 1, none⟩ (.int .i64 0)).setCell ⟨w.heap.size + 1, 2, none⟩ (.int .i64 o)).setCell ⟨w.heap.size + 1, 3, none⟩ (.int .i64 (-v))).setCell ⟨w.heap.size + 1, 4, none⟩ (.int .i64 0)).setCell ⟨w.heap.size + 1, 5, none⟩ (.int .i64 u)).setCell ⟨w.heap.size + 1, 6, none⟩ (.func (.func 82) #[] #[.pointer (some ⟨b6, 0, none⟩), .pointer (some ⟨b5, 0, none⟩)])) (w.heap.size + 1) [.int .i64 s, .int .i64 0, .int .i64 o, .int .i64 (-v), .int .i64 0, .int .i64 u, .func (.func 82) #[] #[.pointer (some ⟨b6, 0, none⟩), .pointer (some ⟨b5, 0, none⟩)]] := (bx_set (bx_set (bx_set (bx_set (bx_set (bx_set (bx_set (unhide H6) 0 (.int .i64 s)) 1 (.int .i64 0)) 2 (.int .i64 o)) 3 (.int .i64 (-v))) 4 (.int .i64 0)) 5 (.int .i64 u)) 6 (.func (.func 82) #[] #[.pointer (some ⟨b6, 0, none⟩), .pointer (some ⟨b5, 0, none⟩)]))
  have B5 : Bx (((((((pq.v.setCell ⟨w.heap.size + 1, 0, none⟩ (.int .i64 s)).setCell ⟨w.heap.size + 1, 1, none⟩ (.int .i64 0)).setCell ⟨w.heap.size + 1, 2, none⟩ (.int .i64 o)).setCell ⟨w.heap.size + 1, 3, none⟩ (.int .i64 (-v))).setCell ⟨w.heap.size + 1, 4, none⟩ (.int .i64 0)).setCell ⟨w.heap.size + 1, 5, none⟩ (.int .i64 u)).setCell ⟨w.heap.size + 1, 6, none⟩ (.func (.func 82) #[] #[.pointer (some ⟨b6, 0, none⟩), .pointer (some ⟨b5, 0, none⟩)])) _ _ := (bx_far (bx_far (bx_far (bx_far (bx_far (bx_far (bx_far (unhide H5) (p := ⟨w.heap.size + 1, 0, none⟩) (by simp only; omega) (.int .i64 s)) (p := ⟨w.heap.size + 1, 1, none⟩) (by simp only; omega) (.int .i64 0)) (p := ⟨w.heap.size + 1, 2, none⟩) (by simp only; omega) (.int .i64 o)) (p := ⟨w.heap.size + 1, 3, none⟩) (by simp only; omega) (.int .i64 (-v))) (p := ⟨w.heap.size + 1, 4, none⟩) (by simp only; omega) (.int .i64 0)) (p := ⟨w.heap.size + 1, 5, none⟩) (by simp only; omega) (.int .i64 u)) (p := ⟨w.heap.size + 1, 6, none⟩) (by simp only; omega) (.func (.func 82) #[] #[.pointer (some ⟨b6, 0, none⟩), .pointer (some ⟨b5, 0, none⟩)]))
  have B7 : Bx (((((((pq.v.setCell ⟨w.heap.size + 1, 0, none⟩ (.int .i64 s)).setCell ⟨w.heap.size + 1, 1, none⟩ (.int .i64 0)).setCell ⟨w.heap.size + 1, 2, none⟩ (.int .i64 o)).setCell ⟨w.heap.size + 1, 3, none⟩ (.int .i64 (-v))).setCell ⟨w.heap.size + 1, 4, none⟩ (.int .i64 0)).setCell ⟨w.heap.size + 1, 5, none⟩ (.int .i64 u)).setCell ⟨w.heap.size + 1, 6, none⟩ (.func (.func 82) #[] #[.pointer (some ⟨b6, 0, none⟩), .pointer (some ⟨b5, 0, none⟩)])) _ _ := (bx_far (bx_far (bx_far (bx_far (bx_far (bx_far (bx_far (unhide H7) (p := ⟨w.heap.size + 1, 0, none⟩) (by simp only; omega) (.int .i64 s)) (p := ⟨w.heap.size + 1, 1, none⟩) (by simp only; omega) (.int .i64 0)) (p := ⟨w.heap.size + 1, 2, none⟩) (by simp only; omega) (.int .i64 o)) (p := ⟨w.heap.size + 1, 3, none⟩) (by simp only; omega) (.int .i64 (-v))) (p := ⟨w.heap.size + 1, 4, none⟩) (by simp only; omega) (.int .i64 0)) (p := ⟨w.heap.size + 1, 5, none⟩) (by simp only; omega) (.int .i64 u)) (p := ⟨w.heap.size + 1, 6, none⟩) (by simp only; omega) (.func (.func 82) #[] #[.pointer (some ⟨b6, 0, none⟩), .pointer (some ⟨b5, 0, none⟩)]))
  obtain ⟨W9, hW9⟩ : ∃ W9, (((((((pq.v.setCell ⟨w.heap.size + 1, 0, none⟩ (.int .i64 s)).setCell ⟨w.heap.size + 1, 1, none⟩ (.int .i64 0)).setCell ⟨w.heap.size + 1, 2, none⟩ (.int .i64 o)).setCell ⟨w.heap.size + 1, 3, none⟩ (.int .i64 (-v))).setCell ⟨w.heap.size + 1, 4, none⟩ (.int .i64 0)).setCell ⟨w.heap.size + 1, 5, none⟩ (.int .i64 u)).setCell ⟨w.heap.size + 1, 6, none⟩ (.func (.func 82) #[] #[.pointer (some ⟨b6, 0, none⟩), .pointer (some ⟨b5, 0, none⟩)])) = W9 := ⟨_, rfl⟩
  rw [hW9] at U9 B9 B5 B7
  (try rw [hW9])
  clear hW9
  have z0 := (B9 0 _ rfl).1
  have z1 := (B9 1 _ rfl).1
  have z2 := (B9 2 _ rfl).1
  have z3 := (B9 3 _ rfl).1
  have z4 := (B9 4 _ rfl).1
  have z5 := (B9 5 _ rfl).1
  have z6 := (B9 6 _ rfl).1
  go_wp2
  (try simp only [Exit.inBlock, Exit.then])
  refine bodyPost_ret (v := .agg #[.int .i64 s, .int .i64 0, .int .i64 o, .int .i64 (-v), .int .i64 0, .int .i64 u, .func (.func 82) #[] #[.pointer (some ⟨b6, 0, none⟩), .pointer (some ⟨b5, 0, none⟩)]]) (by simp [results, Try.results57, go_sem, z0, z1, z2, z3, z4, z5, z6]) rfl ?_
  exact ⟨b5, b6, rfl, U9, bx1 B5, bx1 B7⟩
end Go.Proofs.Ytdignnmhiifpgaa
