/- TopWorn: the law's function returns true. The wear by the carrier with a load: numbers. -/
import Derived.Test.YthifcalemhpmoaaGreatGTrain
import Derived.Test.YthifcalemhpmoaaGreatPkWk6
import Derived.Test.YthifcalemhpmoaaGreatPkBrMm
import Derived.Test.YthifcalemhpmoaaGreatUpQ
import Derived.Deep.Cut
import Derived.Deep.DeepCutAuto
namespace Go.Proofs.YthifcalemhpmoaaGreat
open Go.RowKit Go.Proofs.Gn
set_option linter.unusedVariables false
def wnP (wt li pw : Int) : Pav := ⟨4000 + wt % 16000, 1 + 16 * li, 1 + pw % 4⟩
theorem wn_pv {wt li pw : Int} (h1 : 0 ≤ wt ∧ wt ≤ 65535) (h2 : 0 ≤ li ∧ li ≤ 65535) (h3 : 0 ≤ pw ∧ pw ≤ 255) : pvE (wnP wt li pw) = 0 := by
  unfold pvE wnP
  have w1 : ∀ {n lo hi : Int}, lo ≤ n ∧ n ≤ hi → win6 n lo hi = true := fun h => decide_eq_true h
  dsimp only
  rw [w1 (by omega), w1 (by omega), w1 (by omega)]
  rfl
theorem wn_0 {p : Pav} {a b : Int} (hp : pvE p = 0) (ha : 0 ≤ a ∧ a ≤ 1048576) (hb : 0 ≤ b ∧ b ≤ 1048576) : daE0 p (trF a b) = 0 := by
  unfold daE0
  rw [hp, tr_ct ha hb]
  rfl
theorem wn_E {p : Pav} {ts : List (Int × Int)} {n : Int} (h0 : daE0 p ts = 0) (hn : 0 ≤ n ∧ n ≤ 1048576) (hS : ¬ wsF p ts ≤ 1073741824) : daE p ts n = 4 ∧ daV p ts n = 0 := by
  have e : daE p ts n = 4 := by
    unfold daE
    rw [if_pos h0, if_pos (show win6 n 0 1048576 = true from decide_eq_true hn), if_neg hS]
  exact ⟨e, da_no (by rw [e]; decide)⟩
theorem up6_sum {x y d : Int} (hd : 1 ≤ d) : up6 (x + y) d ≤ up6 x d + up6 y d ∧ up6 x d + up6 y d - 1 ≤ up6 (x + y) d := by
  have f : ∀ n, n ≤ d * up6 n d ∧ d * up6 n d ≤ n + d - 1 := fun n => by
    unfold up6
    have a := Int.mul_ediv_add_emod (n + d - 1) d
    have b := Int.emod_nonneg (n + d - 1) (show d ≠ 0 by omega)
    have c := Int.emod_lt_of_pos (n + d - 1) (show 0 < d by omega)
    omega
  have fx := f x
  have fy := f y
  have fz := f (x + y)
  generalize up6 x d = qx at *
  generalize up6 y d = qy at *
  generalize up6 (x + y) d = qz at *
  constructor
  · apply Decidable.byContradiction
    intro h
    have t := Int.mul_le_mul_of_nonneg_left (show qx + qy + 1 ≤ qz by omega) (show 0 ≤ d by omega)
    rw [Int.mul_add, Int.mul_add, Int.mul_one] at t
    omega
  · apply Decidable.byContradiction
    intro h
    have t := Int.mul_le_mul_of_nonneg_left (show qz + 2 ≤ qx + qy by omega) (show 0 ≤ d by omega)
    rw [Int.mul_add, Int.mul_add] at t
    omega
theorem wr1_nn {p : Pav} (hp : 1 ≤ p.ld) {a : Int} (ha : 0 ≤ a ∧ a ≤ 1048576) : 0 ≤ wrF p a := by
  have q := wsF_nn hp (ts := [(0, a)]) (fun k h => by
    match k, h with
    | 0, _ => exact ha)
  simp only [wsF] at q
  omega
theorem wn_ws (p : Pav) (a b : Int) : wsF p (trF a b) = 2 * wrF p a + 3 * wrF p b := by
  unfold trF
  simp only [wsF]
  omega
theorem wn_nn {p : Pav} (hp : 1 ≤ p.ld) {a b : Int} (ha : 0 ≤ a ∧ a ≤ 1048576) (hb : 0 ≤ b ∧ b ≤ 1048576) : 0 ≤ wsF p (trF a b) := by
  rw [wn_ws]
  have x := wr1_nn hp ha
  have y := wr1_nn hp hb
  omega
theorem wn_le {p : Pav} (hp : 1 ≤ p.ld) {a b b' : Int} (ha : 0 ≤ a ∧ a ≤ 1048576) (hb : 0 ≤ b ∧ b ≤ 1048576) (hb' : 0 ≤ b' ∧ b' ≤ b) (hS : wsF p (trF a b) ≤ 1073741824) : wsF p (trF a b') ≤ wsF p (trF a b) := by
  rw [wn_ws] at hS
  rw [wn_ws, wn_ws]
  have x := wr1_nn hp ha
  have y := wr1_nn hp hb
  have z := wrF_le hp hb'.1 hb'.2 (by omega)
  omega
/-- What the law asks of the damages. -/
theorem wn_facts {p : Pav} {a b b' n m : Int} (hp : pvE p = 0) (ha : 0 ≤ a ∧ a ≤ 1048576) (hb : 0 ≤ b ∧ b ≤ 1048576) (hb' : 0 ≤ b' ∧ b' ≤ b) (hn : 0 ≤ n ∧ n ≤ 255) (hm : 0 ≤ m ∧ m ≤ 255) (hS : wsF p (trF a b) ≤ 1073741824) :
    (daE p (trF a b) n = 0 ∧ daE p (trF a b) m = 0 ∧ daE p (trF a b) (n + m) = 0 ∧ daE p (trF a b') n = 0) ∧ (daV p (trF a b) (n + m) ≤ daV p (trF a b) n + daV p (trF a b) m ∧ daV p (trF a b) n + daV p (trF a b) m - 1 ≤ daV p (trF a b) (n + m)) ∧ (daV p (trF a b') n ≤ daV p (trF a b) n) ∧ ((0 ≤ daV p (trF a b) n ∧ daV p (trF a b) n ≤ 1073741824000 * 255) ∧ (0 ≤ daV p (trF a b) m ∧ daV p (trF a b) m ≤ 1073741824000 * 255)) ∧
    (lfE p (trF a b) 0 = 0 → (0 ≤ lfV p (trF a b) 0 ∧ lfV p (trF a b) 0 ≤ 1048576) ∧ daE p (trF a b) (lfV p (trF a b) 0) = 0 ∧ daV p (trF a b) (lfV p (trF a b) 0) ≤ 1000000) := by
  have hpp := pvE_ok hp
  have h0 := wn_0 hp ha hb
  have h0' := wn_0 (b := b') hp ha (by omega)
  have hS' := wn_le hpp.1.1 ha hb hb' hS
  have hN := wn_nn hpp.1.1 ha hb
  obtain ⟨e1, v1⟩ := da_mk (n := n) h0 (by omega) hS
  obtain ⟨e2, v2⟩ := da_mk (n := m) h0 (by omega) hS
  obtain ⟨e3, v3⟩ := da_mk (n := n + m) h0 (by omega) hS
  obtain ⟨e4, v4⟩ := da_mk (n := n) h0' (by omega) (Int.le_trans hS' hS)
  have hl := hpp.2.1.1
  have bd : ∀ k, 0 ≤ k ∧ k ≤ 255 → 0 ≤ up6 (wsF p (trF a b) * 1000 * k) p.lf ∧ up6 (wsF p (trF a b) * 1000 * k) p.lf ≤ 1073741824000 * 255 := fun k hk => by
    have u := up6_bd (n := wsF p (trF a b) * 1000 * k) (d := p.lf) (Int.mul_nonneg (by omega) hk.1) hl
    have v : wsF p (trF a b) * 1000 * k ≤ 1073741824000 * 255 := Int.mul_le_mul (by omega) hk.2 hk.1 (by omega)
    omega
  refine ⟨⟨e1, e2, e3, e4⟩, ?_, ?_, ⟨by rw [v1]; exact bd n hn, by rw [v2]; exact bd m hm⟩, fun hL => ?_⟩
  · rw [v1, v2, v3, Int.mul_add]
    exact up6_sum hl
  · rw [v1, v4]
    exact up6_le (Int.mul_le_mul_of_nonneg_right (by omega) hn.1) hl
  · obtain ⟨c0, c1, c2⟩ := lf_ok hL
    obtain ⟨q0, q1, q2⟩ := lq_ok (S := wsF p (trF a b)) (lf := p.lf) (n := 0) (by omega) hl c0
    rw [← c2] at q0 q1
    obtain ⟨m0, m1⟩ := da_mk (n := lfV p (trF a b) 0) h0 q0 hS
    exact ⟨q0, m0, by rw [m1]; omega⟩
theorem pcs_take {w : World} {A : Option Addr} {L : List Pce} (h : Pcs w A L) (k : Nat) : Pcs w A (L.take k) := by
  rcases h with h | ⟨b, off, e, hc⟩
  · exact .inl (by rw [h]; simp)
  · refine .inr ⟨b, off, e, fun j hj => ?_⟩
    have q := hc j (by rw [List.length_take] at hj; omega)
    rw [List.getElem_take]
    exact q
theorem pcs_lt {w : World} {L : List Pce} {P : Option Addr} (h : Pcs w P L) (h0 : 0 < L.length) : ∀ b off, P = some ⟨b, off, none⟩ → b < w.heap.size := fun b off e => by
  rcases h with h | ⟨b', off', e', hc⟩
  · rw [h] at h0; simp at h0
  · rw [e] at e'
    simp only [Option.some.injEq, Addr.mk.injEq, and_true] at e'
    obtain ⟨rfl, rfl⟩ := e'
    exact World.block_lt_of_cell? _ _ (hc 0 h0).1
theorem cg_take (bs : List Bxe) : cgL (bs.take ((cgL bs).length - 1)) = (cgL bs).take ((cgL bs).length - 1) := by
  have h : (cgL bs).length ≤ 4 := (cgL_len bs).1
  unfold cgL at *
  rw [List.take_take, ← List.map_take, List.take_take, Nat.min_comm]
theorem wn_mtake {L : List Pce} (h : ∀ p ∈ L, 0 ≤ p.m) (k : Nat) : mas (L.take k) ≤ mas L := by
  have q := mas_append (L.take k) (L.drop k)
  rw [List.take_append_drop] at q
  have nn : ∀ l : List Pce, (∀ p ∈ l, 0 ≤ p.m) → 0 ≤ mas l := by
    intro l hl
    induction l with
    | nil => simp [mas]
    | cons p l ih =>
      have a := hl p (by simp)
      have b := ih fun r hr => hl r (by simp [hr])
      simp only [mas]
      omega
  have := nn (L.drop k) fun p hp => h p (List.mem_of_mem_drop hp)
  omega
theorem cg_less {bs : List Bxe} (hb : ∀ k (h : k < bs.length), okBxe bs[k]) (h2 : 2 ≤ (cgL bs).length) :
    loE cgN ((cgL bs).take ((cgL bs).length - 1)) [] 300 = 0 ∧ (1 ≤ mas ((cgL bs).take ((cgL bs).length - 1)) ∧ mas ((cgL bs).take ((cgL bs).length - 1)) ≤ mas (cgL bs)) ∧ ((cgL bs).take ((cgL bs).length - 1)).length = (cgL bs).length - 1 := by
  obtain ⟨K, hK⟩ : ∃ K, (cgL bs).length - 1 = K := ⟨_, rfl⟩
  have hbl : (cgL bs).length ≤ bs.length := by unfold cgL; rw [List.length_map, List.length_take]; omega
  have hb' : ∀ k (h : k < (bs.take K).length), okBxe (bs.take K)[k] := fun k h => by
    rw [List.getElem_take]
    exact hb k (by rw [List.length_take] at h; omega)
  have hn' : bs.take K ≠ [] := by
    intro e
    have : (bs.take K).length = 0 := by rw [e]; rfl
    rw [List.length_take] at this
    omega
  have e := cg_take bs
  rw [hK] at e
  have l0 := cg_lo0 hb' hn'
  have m0 := cgL_mas hb'
  have n0 := (cgL_len (bs.take K)).2 hn'
  rw [e] at l0 m0 n0
  rw [hK]
  refine ⟨l0, ⟨by omega, wn_mtake (fun p hp => ?_) K⟩, by rw [List.length_take]; omega⟩
  have q := List.all_eq_true.1 (show (cgL bs).all okP = true from cgL_ok hb) p hp
  rw [okP_iff] at q
  unfold okPp at q
  omega
end Go.Proofs.YthifcalemhpmoaaGreat
namespace Go.Proofs.YthifcalemhpmoaaGreat
open Go.RowKit Go.Proofs.Gn
attribute [local go_sem] Oper.semAt_some
set_option linter.unusedVariables false
set_option maxRecDepth 100000 in
set_option maxHeartbeats 16000000 in
/-- No train. -/
theorem l_WornN (A : Option Addr) (nb cap : Nat) (L : List Pce) (n' : Nat) (wt li pw n m : Int) (w : World)
    (HCg : Hid (∀ W, Up w W → Calls Tryz.prog 5 #[.slice A nb cap] W fun e w' => (∃ P cp, e = .returned (loV cgN P n' cp none 0 0 300) ∧ Pcs w' P L) ∧ Up W w'))
    (HT : Hid (∀ P cp W, Pcs W P L → Calls Tryz.prog 11 #[loV cgN P n' cp none 0 0 300] W fun e w' => e = .returned (.tuple #[.slice none 0 0, .int .i64 0, .bool false]) ∧ Up W w'))
    (h1 : 0 ≤ wt ∧ wt ≤ 65535) (h2 : 0 ≤ li ∧ li ≤ 65535) (h3 : 0 ≤ pw ∧ pw ≤ 255) :
    Calls Tryz.prog 4 #[.slice A nb cap, .int .u16 wt, .int .u16 li, .int .u8 pw, .int .u8 n, .int .u8 m] w fun e w' => e = .returned (.bool true) ∧ Up w w' := by
  have HW := hide (fun W => p_works06 W)
  have a1 : IntKind.i64.wrap wt = wt := IntWalk.i64_in _ ⟨by omega, by omega⟩
  have a2 : wt.tmod 16000 = wt % 16000 := Int.tmod_eq_emod_of_nonneg (by omega)
  have a3 : IntKind.i64.wrap (wt % 16000) = wt % 16000 := IntWalk.i64_in _ ⟨by omega, by omega⟩
  have a4 : IntKind.i64.wrap (4000 + wt % 16000) = 4000 + wt % 16000 := IntWalk.i64_in _ ⟨by omega, by omega⟩
  have a5 : IntKind.i64.wrap li = li := IntWalk.i64_in _ ⟨by omega, by omega⟩
  have a6 : IntKind.i64.wrap (16 * li) = 16 * li := IntWalk.i64_in _ ⟨by omega, by omega⟩
  have a7 : IntKind.i64.wrap (1 + 16 * li) = 1 + 16 * li := IntWalk.i64_in _ ⟨by omega, by omega⟩
  have a8 : IntKind.i64.wrap pw = pw := IntWalk.i64_in _ ⟨by omega, by omega⟩
  have a9 : pw.tmod 4 = pw % 4 := Int.tmod_eq_emod_of_nonneg (by omega)
  have b1 : IntKind.i64.wrap (pw % 4) = pw % 4 := IntWalk.i64_in _ ⟨by omega, by omega⟩
  have b2 : IntKind.i64.wrap (1 + pw % 4) = 1 + pw % 4 := IntWalk.i64_in _ ⟨by omega, by omega⟩
  go_enter Tryz.func4, Tryz.ntmps4
  go_upto_region 2 with fail
  refine at_wpC (fun W1 hW1 => ?_)
  have U1 : Up w W1 := by rw [hW1]; exact (by repeat' (first | (with_reducible exact up_refl _) | (with_reducible assumption) | (with_reducible refine up_alloc ?_ _) | (with_reducible refine up_drewN ?_ _) | (with_reducible refine up_drew ?_) | (with_reducible refine up_set ?_ (by first | (simp; done) | (simp; omega) | omega) _) | (refine up_trans ?_ (by with_reducible assumption))))
  clear hW1 a1 a2 a3 a4 a5 a6 a7 a8 a9 b1 b2
  go_upto_region 3 with (go_at_call 5; (with_reducible refine (unhide HCg _ U1).mono ?_); rintro e w2 ⟨⟨P, cp, rfl, hP⟩, u2⟩)
  refine at_wpC (fun W3 hW3 => ?_)
  have u23 : Up w2 W3 := by rw [hW3]; exact (by repeat' (first | (with_reducible exact up_refl _) | (with_reducible assumption) | (with_reducible refine up_alloc ?_ _) | (with_reducible refine up_drewN ?_ _) | (with_reducible refine up_drew ?_) | (with_reducible refine up_set ?_ (by first | (simp; done) | (simp; omega) | omega) _) | (refine up_trans ?_ (by with_reducible assumption))))
  have bX : Bx W3 w2.heap.size [.string cgN, .slice P n' cp, .slice none 0 0, .int .i64 300] := by rw [hW3]; exact bx_new w2 _ _
  have hP3 := pcs_up hP u23
  have U3 := up_trans U1 (up_trans u2 u23)
  clear hW3 hP u2 u23 U1
  have c0 := (bX 0 _ rfl).1
  have c1 := (bX 1 _ rfl).1
  have c2 := (bX 2 _ rfl).1
  have c3 := (bX 3 _ rfl).1
  go_wp2_with (first
    | (go_at_call 11; (with_reducible refine (unhide HT _ _ _ hP3).mono ?_); rintro e w4 ⟨rfl, u4⟩)
    | (go_at_call 12; (with_reducible refine (unhide HW _).mono ?_); rintro e w5 ⟨rfl, u5⟩))
  go_ret
  exact ⟨rfl, up_trans U3 (up_trans u4 u5)⟩
set_option maxRecDepth 100000 in
set_option maxHeartbeats 32000000 in
theorem l_WornY (A : Option Addr) (bs : List Bxe) (cap : Nat) (wt li pw n m : Int) (w : World) (h : BxsOk w A bs) (hn : bs.length ≤ 9223372036854775807) (h0 : bs ≠ []) (hk : cei (7000 + mas (cgL bs)) 3 ≤ 12000)
    (h1 : 0 ≤ wt ∧ wt ≤ 65535) (h2 : 0 ≤ li ∧ li ≤ 65535) (h3 : 0 ≤ pw ∧ pw ≤ 255) (h4 : 0 ≤ n ∧ n ≤ 255) (h5 : 0 ≤ m ∧ m ≤ 255) :
    Calls Tryz.prog 4 #[.slice A bs.length cap, .int .u16 wt, .int .u16 li, .int .u8 pw, .int .u8 n, .int .u8 m] w fun e w' => e = .returned (.bool true) ∧ Up w w' := by
  have hlo := cg_lo0 h.2 h0
  have hln := cgL_len bs
  have hm : 1 ≤ mas (cgL bs) ∧ mas (cgL bs) ≤ 32000 := by
    have a := cgL_mas h.2
    have b := hln.2 h0
    omega
  have hcb := cei_bd hm
  have HCg := hide (fun W (hW : Up w W) => p_cargoK A bs cap W (bxes_up h.1 hW) h.2 hn)
  have HT := hide (fun P cp W (hP : Pcs W P (cgL bs)) => p_gtrain (cgL bs) P cp W hP (by omega) hlo hm hk)
  have HLs := hide (fun (x : 2 ≤ (cgL bs).length) => cg_less h.2 x)
  have HT2 := hide (fun (x : 2 ≤ (cgL bs).length) P cp W (hP : Pcs W P (cgL bs)) => by
    obtain ⟨l0, ⟨m0, m1⟩, n0⟩ := cg_less h.2 x
    have q := p_gtrain ((cgL bs).take ((cgL bs).length - 1)) P cp W (pcs_take hP _) (by omega) l0 ⟨m0, by omega⟩ (Int.le_trans (cei_le m1) hk)
    rw [n0] at q
    exact q)
  have HK := hide (fun (x : 2 ≤ (cgL bs).length) => cei_le (cg_less h.2 x).2.1.2)
  have HKb := hide (fun (x : 2 ≤ (cgL bs).length) => cei_bd (m := mas ((cgL bs).take ((cgL bs).length - 1))) ⟨(cg_less h.2 x).2.1.1, by have := (cg_less h.2 x).2.1.2; omega⟩)
  obtain ⟨K, hK⟩ : ∃ K, cei (7000 + mas (cgL bs)) 3 = K := ⟨_, rfl⟩
  obtain ⟨K', hK'⟩ : ∃ K', cei (7000 + mas ((cgL bs).take ((cgL bs).length - 1))) 3 = K' := ⟨_, rfl⟩
  rw [hK] at HT HK hk hcb
  rw [hK'] at HT2 HK HKb
  obtain ⟨p, hp⟩ : ∃ p, wnP wt li pw = p := ⟨_, rfl⟩
  have hpv := wn_pv h1 h2 h3
  rw [hp] at hpv
  have HD := hide (fun (T : Option Addr) (c : Nat) (F : List (Int × Int)) (hF5 : F.length = 5) (k : Int) W (hF : Frs W T F) => (show Calls Tryz.prog 13 #[.agg #[.int .i64 (4000 + wt % 16000), .int .i64 (1 + 16 * li), .int .i64 (1 + pw % 4)], .slice T 5 c, .int .i64 k] W fun e w' => e = .returned (.tuple #[.int .i64 (daV p F k), .int .i64 (daE p F k)]) ∧ Up W w' from by
    have q := p_Damage p T F c k W hF (by omega)
    rw [hF5, ← hp] at q
    rw [← hp]
    exact q))
  have HL := hide (fun (T : Option Addr) (c : Nat) W (hF : Frs W T (trF 4500 K)) => (show Calls Tryz.prog 14 #[.agg #[.int .i64 (4000 + wt % 16000), .int .i64 (1 + 16 * li), .int .i64 (1 + pw % 4)], .slice T 5 c, .int .i64 0] W fun e w' => e = .returned (.tuple #[.int .i64 (lfV p (trF 4500 K) 0), .int .i64 (lfE p (trF 4500 K) 0)]) ∧ Up W w' from by
    have q := p_Left p T (trF 4500 K) c 0 W hF (by simp [trF])
    rw [← hp] at q
    rw [← hp]
    exact q))
  have HW := hide (fun W => p_works06 W)
  have HN := hide (fun x (y : 0 ≤ x ∧ x ≤ 1048576) z => wn_E (p := p) (ts := trF 4500 K) (n := x) (wn_0 hpv (by omega) (by omega)) y z)
  have HF := hide (fun (x : 0 ≤ K' ∧ K' ≤ K) z => wn_facts (p := p) (a := 4500) (b := K) (b' := K') (n := n) (m := m) hpv (by omega) (by omega) x h4 h5 z)
  have HF0 := hide (fun z => wn_facts (p := p) (a := 4500) (b := K) (b' := K) (n := n) (m := m) hpv (by omega) (by omega) (by omega) h4 h5 z)
  have hG5 : (trF 4500 K).length = 5 := rfl
  have hG5' : (trF 4500 K').length = 5 := rfl
  generalize trF 4500 K = G at *
  generalize trF 4500 K' = G' at *
  generalize mas (cgL bs) = M at *
  obtain ⟨nb, hnb⟩ : ∃ N, bs.length = N := ⟨_, rfl⟩
  rw [hnb] at HCg hn ⊢
  obtain ⟨nl, hnl⟩ : ∃ N, (cgL bs).length = N := ⟨_, rfl⟩
  rw [hnl] at HCg HT HT2 HLs HK HKb hln
  have a1 : IntKind.i64.wrap wt = wt := IntWalk.i64_in _ ⟨by omega, by omega⟩
  have a2 : wt.tmod 16000 = wt % 16000 := Int.tmod_eq_emod_of_nonneg (by omega)
  have a3 : IntKind.i64.wrap (wt % 16000) = wt % 16000 := IntWalk.i64_in _ ⟨by omega, by omega⟩
  have a4 : IntKind.i64.wrap (4000 + wt % 16000) = 4000 + wt % 16000 := IntWalk.i64_in _ ⟨by omega, by omega⟩
  have a5 : IntKind.i64.wrap li = li := IntWalk.i64_in _ ⟨by omega, by omega⟩
  have a6 : IntKind.i64.wrap (16 * li) = 16 * li := IntWalk.i64_in _ ⟨by omega, by omega⟩
  have a7 : IntKind.i64.wrap (1 + 16 * li) = 1 + 16 * li := IntWalk.i64_in _ ⟨by omega, by omega⟩
  have a8 : IntKind.i64.wrap pw = pw := IntWalk.i64_in _ ⟨by omega, by omega⟩
  have a9 : pw.tmod 4 = pw % 4 := Int.tmod_eq_emod_of_nonneg (by omega)
  have b1 : IntKind.i64.wrap (pw % 4) = pw % 4 := IntWalk.i64_in _ ⟨by omega, by omega⟩
  have b2 : IntKind.i64.wrap (1 + pw % 4) = 1 + pw % 4 := IntWalk.i64_in _ ⟨by omega, by omega⟩
  have g1 : IntKind.i64.wrap n = n := IntWalk.i64_in _ ⟨by omega, by omega⟩
  have g2 : IntKind.i64.wrap m = m := IntWalk.i64_in _ ⟨by omega, by omega⟩
  have g3 : IntKind.i64.wrap (n + m) = n + m := IntWalk.i64_in _ ⟨by omega, by omega⟩
  have HNL := hide hnl
  have HLn := hide (⟨hln.1, hln.2 h0⟩ : nl ≤ 4 ∧ 1 ≤ nl)
  clear h hlo hln hm hcb h0 hk hK hK' hp hpv hnb hnl
  go_enter Tryz.func4, Tryz.ntmps4
  go_upto_region 2 with fail
  refine at_wpC (fun W1 hW1 => ?_)
  have U1 : Up w W1 := by rw [hW1]; exact (by repeat' (first | (with_reducible exact up_refl _) | (with_reducible assumption) | (with_reducible refine up_alloc ?_ _) | (with_reducible refine up_drewN ?_ _) | (with_reducible refine up_drew ?_) | (with_reducible refine up_set ?_ (by first | (simp; done) | (simp; omega) | omega) _) | (refine up_trans ?_ (by with_reducible assumption))))
  have bP : Bx W1 w.heap.size [.int .i64 (4000 + wt % 16000), .int .i64 (1 + 16 * li), .int .i64 (1 + pw % 4)] := by rw [hW1]; exact bx_new w _ _
  obtain ⟨gp, hg⟩ : ∃ g, w.heap.size = g := ⟨_, rfl⟩
  have HGP := hide (Nat.le_of_eq hg)
  rw [hg] at bP ⊢
  clear hW1 hg a1 a2 a3 a4 a5 a6 a7 a8 a9 b1 b2
  generalize 4000 + wt % 16000 = p0 at *
  generalize 1 + 16 * li = p1 at *
  generalize 1 + pw % 4 = p2 at *
  go_upto_region 3 with (go_at_call 5; (with_reducible refine (unhide HCg _ U1).mono ?_); rintro e w2 ⟨⟨P, cp, rfl, hP, hcap⟩, u2⟩)
  refine at_wpC (fun W3 hW3 => ?_)
  have u23 : Up w2 W3 := by rw [hW3]; exact (by repeat' (first | (with_reducible exact up_refl _) | (with_reducible assumption) | (with_reducible refine up_alloc ?_ _) | (with_reducible refine up_drewN ?_ _) | (with_reducible refine up_drew ?_) | (with_reducible refine up_set ?_ (by first | (simp; done) | (simp; omega) | omega) _) | (refine up_trans ?_ (by with_reducible assumption))))
  have bX : Bx W3 w2.heap.size [.string cgN, .slice P nl cp, .slice none 0 0, .int .i64 300] := by rw [hW3]; exact bx_new w2 _ _
  have hgx : w.heap.size ≤ w2.heap.size := by have := U1.size; have := u2.size; omega
  have hgpx : gp < w2.heap.size := by have := bx_lt bP (by simp); have := u2.size; omega
  have hPx := pcs_lt hP (by rw [unhide HNL]; have := unhide HLn; omega)
  obtain ⟨gx, hg⟩ : ∃ g, w2.heap.size = g := ⟨_, rfl⟩
  rw [hg] at bX hgx hgpx hPx ⊢
  have HPx := hide hPx
  have HCap := hide hcap
  have hP3 := pcs_up hP u23
  have bP3 := bx_up bP (up_trans u2 u23)
  have U3 := up_trans U1 (up_trans u2 u23)
  clear hW3 hP u2 u23 U1 bP hg HCg hPx hcap
  have c0 := (bX 0 _ rfl).1
  have c1 := (bX 1 _ rfl).1
  have c2 := (bX 2 _ rfl).1
  have c3 := (bX 3 _ rfl).1
  go_upto_region 6 with (go_at_call 11; (with_reducible refine (unhide HT _ _ _ hP3).mono ?_); rintro e w4 ⟨⟨T, c, rfl, hF⟩, u4⟩)
  have bX4 := bx_up bX u4
  have bP4 := bx_up bP3 u4
  have hP4 := pcs_up hP3 u4
  have U4 := up_trans U3 u4
  clear c0 c1 c2 c3 bX bP3 hP3 U3 u4 HT
  obtain ⟨c0, c1, c2⟩ := bx3 bP4
  by_cases hS : wsF p G ≤ 1073741824
  · obtain ⟨⟨e1, e2, e3, _⟩, ⟨s1, s2⟩, _, ⟨⟨t1, t2⟩, ⟨t3, t4⟩⟩, HLf⟩ := unhide HF0 hS
    have HLf := hide HLf
    have HDn := hide (fun T c W (hF : Frs W T G) => unhide HD T c G hG5 n W hF)
    have HDm := hide (fun T c W (hF : Frs W T G) => unhide HD T c G hG5 m W hF)
    have HDs := hide (fun T c W (hF : Frs W T G) => unhide HD T c G hG5 (n + m) W hF)
    rw [e1] at HDn
    rw [e2] at HDm
    rw [e3] at HDs
    have HS := hide hS
    generalize daV p G n = D1 at *
    generalize daV p G m = D2 at *
    generalize daV p G (n + m) = D3 at *
    go_upto_region 7 with (go_at_call 13; (with_reducible refine (unhide HDn _ _ _ hF).mono ?_); rintro e w5 ⟨rfl, u5⟩)
    have hF5 := frs_up hF u5
    have bP5 := bx_up bP4 u5
    clear c0 c1 c2
    obtain ⟨c0, c1, c2⟩ := bx3 bP5
    go_upto_region 8 with (go_at_call 13; (with_reducible refine (unhide HDm _ _ _ hF5).mono ?_); rintro e w6 ⟨rfl, u6⟩)
    have hF6 := frs_up hF5 u6
    have bP6 := bx_up bP5 u6
    clear c0 c1 c2
    obtain ⟨c0, c1, c2⟩ := bx3 bP6
    go_upto_region 9 with (go_at_call 13; (with_reducible refine (unhide HDs _ _ _ hF6).mono ?_); rintro e w7 ⟨rfl, u7⟩)
    have u47 := up_trans u5 (up_trans u6 u7)
    have hF7 := frs_up hF u47
    have bP7 := bx_up bP4 u47
    have bX7 := bx_up bX4 u47
    have hP7 := pcs_up hP4 u47
    have U7 := up_trans U4 u47
    clear c0 c1 c2 bP5 bP6 hF5 hF6 u5 u6 u7 u47 hF bP4 bX4 hP4 U4 HDm HDs
    have y1 : IntKind.i64.wrap (D1 + D2) = D1 + D2 := IntWalk.i64_in _ ⟨by omega, by omega⟩
    have y2 : IntKind.i64.wrap (D1 + D2 - 1) = D1 + D2 - 1 := IntWalk.i64_in _ ⟨by omega, by omega⟩
    have y3 : ¬ D1 + D2 < D3 := by omega
    have y4 : ¬ D3 < D1 + D2 - 1 := by omega
    go_upto_region 13 with fail
    obtain ⟨c0, c1, c2⟩ := bx3 bP7
    generalize lfV p G 0 = KV at *
    generalize lfE p G 0 = KE at *
    go_upto_region 14 with (go_at_call 14; (with_reducible refine (unhide HL _ _ _ hF7).mono ?_); rintro e w8 ⟨rfl, u8⟩)
    have hF8 := frs_up hF7 u8
    have bP8 := bx_up bP7 u8
    have bX8 := bx_up bX7 u8
    have hP8 := pcs_up hP7 u8
    have U8 := up_trans U7 u8
    clear c0 c1 c2 bP7 bX7 hP7 U7 u8 hF7 HL
    obtain ⟨TT, hTT⟩ : ∃ TT : Bool, (TT = true ↔ KE = 0) := ⟨decide (KE = 0), by simp⟩
    have HTT := hide hTT
    clear hTT
    go_cut [130] (fun s wx => s = .bool TT ∧ w8 = wx)
    case first =>
      by_cases hE : KE = 0
      · obtain rfl : TT = true := (unhide HTT).2 hE
        obtain ⟨⟨q1, q2⟩, _, _⟩ := unhide HLf hE
        subst hE
        go_wp2
        go_meet
        exact ⟨rfl, rfl⟩
      · obtain rfl : TT = false := by
          cases TT
          · rfl
          · exact absurd ((unhide HTT).1 rfl) hE
        have t1 : (KE == 0) = false := by simp [hE]
        go_wp2
        go_meet
        exact ⟨rfl, rfl⟩
    case rest =>
      obtain ⟨rfl, rfl⟩ := hcut
      go_upto_if 130 with fail
      go_cut [12] (fun s wx => s = .bool false ∧ Up w8 wx)
      case first =>
        cases TT
        · go_wp2
          go_meet
          exact ⟨rfl, up_refl _⟩
        · obtain ⟨⟨q1, q2⟩, f1, f2⟩ := unhide HLf ((unhide HTT).1 rfl)
          have HDk := hide (fun T c W (hF : Frs W T G) => unhide HD T c G hG5 KV W hF)
          rw [f1] at HDk
          generalize daV p G KV = D5 at *
          have y5 : ¬ 1000000 < D5 := by omega
          obtain ⟨c0, c1, c2⟩ := bx3 bP8
          go_wp2_with (go_at_call 13; (with_reducible refine (unhide HDk _ _ _ hF8).mono ?_); rintro e w9 ⟨rfl, u9⟩)
          go_meet
          exact ⟨rfl, u9⟩
      case rest =>
        obtain ⟨rfl, u9⟩ := hcut
        obtain ⟨W9, rfl⟩ : ∃ z : World, z = wc := ⟨_, rfl⟩
        have bP9 := bx_up bP8 u9
        have bX9 := bx_up bX8 u9
        have hP9 := pcs_up hP8 u9
        have U9 := up_trans U8 u9
        clear bP8 bX8 hP8 U8 u9 hF8 HTT HLf
        have x1 := (bX9 1 _ rfl).1
        by_cases h2 : nl < 2
        · have z1 : (nl : Int) < 2 := by omega
          go_wp2_with (go_at_call 12; (with_reducible refine (unhide HW _).mono ?_); rintro e wA ⟨rfl, uA⟩)
          go_ret
          exact ⟨rfl, up_trans U9 uA⟩
        · have z1 : ¬ (nl : Int) < 2 := by omega
          have h2' : 2 ≤ nl := by omega
          have h4' := (unhide HLn).1
          have z2 : IntKind.i64.wrap ((nl : Int) - 1) = (nl : Int) - 1 := IntWalk.i64_in _ ⟨by omega, by omega⟩
          have z3 : (0 : Int) ≤ (nl : Int) - 1 := by omega
          have z4 : ((nl : Int) - 1).toNat = nl - 1 := by omega
          have hcap := unhide HCap
          have z5 : nl - 1 ≤ cp := by have := hcap.1; omega
          have z6 : (nl : Int) - 1 ≤ (cp : Int) := by omega
          have f9 := (bX9 1 _ rfl).2
          go_upto_region 21 with fail
          refine at_wpC (fun WA hWA => ?_)
          have bXA : Bx WA gx [.string cgN, .slice P (nl - 1) cp, .slice none 0 0, .int .i64 300] := by rw [hWA]; exact bx_set bX9 1 _
          have bPA := bx_far bP9 (p := ⟨gx, 1, none⟩) (by simp only; omega) (.slice P (nl - 1) cp)
          have hPA := pcs_farC hP9 (p := ⟨gx, 1, none⟩) (fun b off e => by have := unhide HPx b off e; simp only; omega) (.slice P (nl - 1) cp)
          have UA := up_set U9 (p := ⟨gx, 1, none⟩) (by simp only; omega) (.slice P (nl - 1) cp)
          rw [← hWA] at bPA hPA UA
          have HTt := hide (unhide HT2 h2')
          have k1 := unhide HK h2'
          have k2 := unhide HKb h2'
          obtain ⟨⟨_, _, _, f1⟩, _, f2, _, _⟩ := unhide HF ⟨by omega, k1⟩ (unhide HS)
          have HDl := hide (fun T c W (hF : Frs W T G') => unhide HD T c G' hG5' n W hF)
          rw [f1] at HDl
          generalize daV p G' n = D4 at *
          generalize mas (List.take (nl - 1) (cgL bs)) = M' at *
          clear hWA bX9 bP9 hP9 U9 x1 f9 f1 k1 k2 h2 z1 z2 z3 z4 z5 z6 hcap s1 s2 t1 t2 t3 t4 y1 y2 y3 y4
          have c0 := (bXA 0 _ rfl).1
          have c1 := (bXA 1 _ rfl).1
          have c2 := (bXA 2 _ rfl).1
          have c3 := (bXA 3 _ rfl).1
          go_upto_region 24 with (go_at_call 11; (with_reducible refine (unhide HTt _ _ _ hPA).mono ?_); rintro e wB ⟨⟨T', c', rfl, hF'⟩, uB⟩)
          have bPB := bx_up bPA uB
          clear c0 c1 c2 c3 bXA bPA hPA
          obtain ⟨c0, c1, c2⟩ := bx3 bPB
          go_wp2_with (first
            | (go_at_call 13; (with_reducible refine (unhide HDl _ _ _ hF').mono ?_); rintro e wC ⟨rfl, uC⟩)
            | (go_at_call 12; (with_reducible refine (unhide HW _).mono ?_); rintro e wD ⟨rfl, uD⟩))
          go_ret
          exact ⟨rfl, up_trans UA (up_trans uB (up_trans uC uD))⟩
  · obtain ⟨e1, v1⟩ := unhide HN n (by omega) (by omega)
    obtain ⟨e2, v2⟩ := unhide HN m (by omega) (by omega)
    obtain ⟨e3, v3⟩ := unhide HN (n + m) (by omega) (by omega)
    have HDn := hide (fun T c W (hF : Frs W T G) => unhide HD T c G hG5 n W hF)
    have HDm := hide (fun T c W (hF : Frs W T G) => unhide HD T c G hG5 m W hF)
    have HDs := hide (fun T c W (hF : Frs W T G) => unhide HD T c G hG5 (n + m) W hF)
    rw [e1, v1] at HDn
    rw [e2, v2] at HDm
    rw [e3, v3] at HDs
    clear e1 v1 e2 v2 e3 v3
    go_upto_region 7 with (go_at_call 13; (with_reducible refine (unhide HDn _ _ _ hF).mono ?_); rintro e w5 ⟨rfl, u5⟩)
    have hF5 := frs_up hF u5
    have bP5 := bx_up bP4 u5
    clear c0 c1 c2
    obtain ⟨c0, c1, c2⟩ := bx3 bP5
    go_upto_region 8 with (go_at_call 13; (with_reducible refine (unhide HDm _ _ _ hF5).mono ?_); rintro e w6 ⟨rfl, u6⟩)
    have hF6 := frs_up hF5 u6
    have bP6 := bx_up bP5 u6
    clear c0 c1 c2
    obtain ⟨c0, c1, c2⟩ := bx3 bP6
    go_wp2_with (first
      | (go_at_call 13; (with_reducible refine (unhide HDs _ _ _ hF6).mono ?_); rintro e w7 ⟨rfl, u7⟩)
      | (go_at_call 12; (with_reducible refine (unhide HW _).mono ?_); rintro e w8 ⟨rfl, u8⟩))
    go_ret
    exact ⟨rfl, up_trans U4 (up_trans u5 (up_trans u6 (up_trans u7 u8)))⟩
set_option maxRecDepth 100000 in
theorem l_Worn (A : Option Addr) (bs : List Bxe) (cap : Nat) (wt li pw n m : Int) (w : World) (h : BxsOk w A bs) (hn : bs.length ≤ 9223372036854775807)
    (h1 : 0 ≤ wt ∧ wt ≤ 65535) (h2 : 0 ≤ li ∧ li ≤ 65535) (h3 : 0 ≤ pw ∧ pw ≤ 255) (h4 : 0 ≤ n ∧ n ≤ 255) (h5 : 0 ≤ m ∧ m ≤ 255) :
    Calls Tryz.prog 4 #[.slice A bs.length cap, .int .u16 wt, .int .u16 li, .int .u8 pw, .int .u8 n, .int .u8 m] w fun e w' => e = .returned (.bool true) ∧ Up w w' := by
  by_cases h0 : bs = []
  · subst h0
    exact l_WornN A ([] : List Bxe).length cap (cgL []) 0 wt li pw n m w (hide (fun W hW => p_cargo A [] cap W (bxes_up h.1 hW) h.2 hn)) (hide (fun P cp W hP => p_gtrain0 P cp W)) h1 h2 h3
  · have hlo := cg_lo0 h.2 h0
    have hln := cgL_len bs
    have hm : 1 ≤ mas (cgL bs) ∧ mas (cgL bs) ≤ 32000 := by
      have a := cgL_mas h.2
      have b := hln.2 h0
      omega
    by_cases hk : cei (7000 + mas (cgL bs)) 3 ≤ 12000
    · exact l_WornY A bs cap wt li pw n m w h hn h0 hk h1 h2 h3 h4 h5
    · exact l_WornN A bs.length cap (cgL bs) (cgL bs).length wt li pw n m w (hide (fun W hW => p_cargo A bs cap W (bxes_up h.1 hW) h.2 hn)) (hide (fun P cp W hP => p_gtrainN (cgL bs) P cp W hP (by omega) hlo hm hk)) h1 h2 h3
end Go.Proofs.YthifcalemhpmoaaGreat
