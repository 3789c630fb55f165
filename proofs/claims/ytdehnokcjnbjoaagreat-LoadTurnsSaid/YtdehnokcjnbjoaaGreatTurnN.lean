/- Any valid load turned by any number of quarters. -/
import Derived.Test.YtdehnokcjnbjoaaGreatLdTn
namespace Go.Proofs.YtdehnokcjnbjoaaGreat
open Go.RowKit Go.Proofs.Gn
attribute [local go_sem] Oper.semAt_some
set_option linter.unusedVariables false
/-- So many times to the left. -/
def trN : Nat → List Pce → List Pce
  | 0, L => L
  | k + 1, L => (trN k L).map trP
def tyN : Nat → List Eye → List Eye
  | 0, L => L
  | k + 1, L => (tyN k L).map tyP
theorem trN_len (k : Nat) (L : List Pce) : (trN k L).length = L.length := by
  induction k with
  | zero => rfl
  | succ k ih => rw [trN, List.length_map, ih]
theorem tyN_len (k : Nat) (L : List Eye) : (tyN k L).length = L.length := by
  induction k with
  | zero => rfl
  | succ k ih => rw [tyN, List.length_map, ih]
theorem lo_trN {s : ByteArray} {ps : List Pce} {ys : List Eye} {f : Int} (h : loE s ps ys f = 0) : ∀ k, loE s (trN k ps) (tyN k ys) f = 0
  | 0 => h
  | k + 1 => lo_trA (lo_trN h k)
/-- How many times a load is turned. -/
def quN (q : Int) : Nat := ((q.tmod 4 + 4).tmod 4).toNat
theorem quN_lt (q : Int) : quN q < 4 := by
  unfold quN
  have a := Int.tmod_lt_of_pos (q.tmod 4 + 4) (show (0 : Int) < 4 by omega)
  omega
theorem quN_at (q : Int) : (-3 ≤ q.tmod 4 ∧ q.tmod 4 ≤ 3) ∧ (q.tmod 4 + 4).tmod 4 = (quN q : Int) ∧ (q.tmod 4 + 4) % 4 = (quN q : Int) := by
  have a := Int.tmod_lt_of_pos q (show (0 : Int) < 4 by omega)
  have b := Int.lt_tmod_of_pos q (show (0 : Int) < 4 by omega)
  have c : (q.tmod 4 + 4).tmod 4 = (q.tmod 4 + 4) % 4 := Int.tmod_eq_emod_of_nonneg (by omega)
  have d : 0 ≤ (q.tmod 4 + 4) % 4 := Int.emod_nonneg _ (by omega)
  refine ⟨⟨by omega, by omega⟩, ?_, ?_⟩
  · unfold quN; rw [c]; omega
  · unfold quN; rw [c]; omega
/-- Between the rounds. -/
def TuO (K : Nat) (ps : List Pce) (ys : List Eye) (g : Nat) (G : Option Addr) (s24 : Value) (wr : World) : Prop := ∃ o : Nat, o ≤ K ∧ s24 = .int .i64 o ∧ Bx wr g (cellsPc (trN o ps)) ∧ RowY wr (g + 1) G (tyN o ys)
set_option maxRecDepth 100000 in
set_option maxHeartbeats 16000000 in
theorem p_TurnedN (s : ByteArray) (A : Option Addr) (ps : List Pce) (cp : Nat) (B : Option Addr) (ys : List Eye) (cb : Nat) (f qu : Int) (w : World) (h : Pcs w A ps) (hB : Eyes w B ys) (hE : loE s ps ys f = 0) :
    Calls Tryz.prog 46 #[loV s A ps.length cp B ys.length cb f, .int .i64 qu] w fun e w' => (∃ g c' G d, e = .returned (.tuple #[loV s (some ⟨g, 0, none⟩) ps.length c' G ys.length d f, .int .i64 0]) ∧ w.heap.size ≤ g ∧ Bx w' g (cellsPc (trN (quN qu) ps)) ∧ RowY w' w.heap.size G (tyN (quN qu) ys)) ∧ Up w w' := by
  obtain ⟨⟨hg1, hg2, hg3⟩, _, _, hok, hoy, _⟩ := loE_ok hE
  have HC := hide (fun W (hW : Up w W) => p_CheckL s A ps cp B ys cb f W (pcs_up h hW) (eyes_up hB hW) (by omega) (by omega))
  rw [hE] at HC
  have HCl := hide (fun W (hW : Up w W) => p_cloneA s A ps cp B ys cb f W (pcs_up h hW) (eyes_up hB hW) (by omega) (by omega) (by omega))
  have HRy := hide (fun P cq G d W (hp : Pcs W P (trN (quN qu) ps)) (hy : Eyes W G (tyN (quN qu) ys)) => by
    have q := p_resultL s P (trN (quN qu) ps) cq G (tyN (quN qu) ys) d f W hp hy (by rw [trN_len]; omega) (by rw [tyN_len]; omega) (lo_trN hE _)
    rw [trN_len, tyN_len] at q
    exact q)
  have HLo := hide (fun k => lo_trN hE k)
  obtain ⟨⟨r1, r2⟩, r3, r4⟩ := quN_at qu
  have r5 : IntKind.i64.wrap (qu.tmod 4 + 4) = qu.tmod 4 + 4 := i64_small (by omega)
  obtain ⟨K, hK⟩ : ∃ K, quN qu = K := ⟨_, rfl⟩
  have hK4 : K < 4 := by rw [← hK]; exact quN_lt qu
  rw [hK] at HRy r3 r4 ⊢
  clear hK
  obtain ⟨n, hnn⟩ : ∃ n, ps.length = n := ⟨_, rfl⟩
  obtain ⟨m, hmm⟩ : ∃ m, ys.length = m := ⟨_, rfl⟩
  have HNN := hide hnn
  have HMM := hide hmm
  rw [hnn] at hg1 hg2 HC HCl HRy ⊢
  rw [hmm] at hg3 HC HCl HRy ⊢
  clear h hB hE hok hoy hnn hmm
  go_enter Tryz.func46, Tryz.ntmps46
  go_upto_region 1 with fail
  refine at_wpC (fun W0 hW0 => ?_)
  have hT0 : SdB [.string s, .slice A n cp, .slice B m cb, .int .i64 f] w.heap.size (w.heap.size + 1) w W0 := by
    rw [hW0]
    refine ⟨bx_alloc (bx_new w _ _) _, ?_, (by repeat' (first | (with_reducible exact up_refl _) | (with_reducible assumption) | (with_reducible refine up_alloc ?_ _) | (with_reducible refine up_drewN ?_ _) | (with_reducible refine up_drew ?_) | (with_reducible refine up_set ?_ (by first | (simp; done) | (simp; omega) | omega) _) | (refine up_trans ?_ (by with_reducible assumption))))⟩
    have q := bx_new (w.alloc (.cells #[.string s, .slice A n cp, .slice B m cb, .int .i64 f] 25)) [.string { data := #[] }, .slice none 0 0, .slice none 0 0, .int .i64 0] 25
    rw [World.size_alloc] at q
    exact q
  clear hW0
  have U0 := hT0.2.2
  have c0 := (hT0.1 0 _ rfl).1
  have c1 := (hT0.1 1 _ rfl).1
  have c2 := (hT0.1 2 _ rfl).1
  have c3 := (hT0.1 3 _ rfl).1
  go_upto_region 4 with (go_at_call 16; (with_reducible refine (unhide HC _ U0).mono ?_); rintro e w1 ⟨rfl, u1⟩; have hT := hT0.ups u1)
  clear c0 c1 c2 c3 hT0 u1 U0
  have U1 := hT.2.2
  have hzR : w.heap.size + 1 < w1.heap.size := bx_lt hT.2.1 (by simp)
  have c0 := (hT.1 0 _ rfl).1
  have c1 := (hT.1 1 _ rfl).1
  have c2 := (hT.1 2 _ rfl).1
  have c3 := (hT.1 3 _ rfl).1
  go_upto_region 5 with (go_at_call 98; (with_reducible refine (unhide HCl _ U1).mono ?_); rintro e w2 ⟨⟨g, c', G, d, rfl, bG, hgz, hY⟩, u2⟩)
  refine at_wpC (fun W5 hW5 => ?_)
  have u25 : Up w2 W5 := by rw [hW5]; exact (by repeat' (first | (with_reducible exact up_refl _) | (with_reducible assumption) | (with_reducible refine up_alloc ?_ _) | (with_reducible refine up_drewN ?_ _) | (with_reducible refine up_drew ?_) | (with_reducible refine up_set ?_ (by first | (simp; done) | (simp; omega) | omega) _) | (refine up_trans ?_ (by with_reducible assumption))))
  have bS : Bx W5 w2.heap.size [.string s, .slice (some ⟨g, 0, none⟩) n c', .slice G m d, .int .i64 f] := by rw [hW5]; exact bx_new w2 _ _
  have hgl : g < w2.heap.size := bx_lt bG (by rw [cellsPc_len, unhide HNN]; omega)
  have hYx : ys = [] ∨ ∃ gy, G = some ⟨gy, 0, none⟩ ∧ gy < w2.heap.size := by
    by_cases hys : ys = []
    · exact .inl hys
    · rcases hY with h | ⟨q, e, hb, _⟩
      · exact .inl h
      · exact .inr ⟨q, e, bx_lt hb (by rw [cellsEy_len]; have := List.length_pos_iff.2 hys; omega)⟩
  have hT5 : SdB [.string s, .slice (some ⟨g, 0, none⟩) n c', .slice G m d, .int .i64 f] w2.heap.size (w.heap.size + 1) w W5 := ⟨bS, bx_up (bx_up hT.2.1 u2) u25, up_trans (up_trans U1 u2) u25⟩
  have bG5 := bx_up bG u25
  have hY5 := hY.ups u25
  obtain ⟨x, hx⟩ : ∃ x, w2.heap.size = x := ⟨_, rfl⟩
  rw [hx] at hT5 hgl hYx ⊢
  have hRg : w.heap.size + 1 < g := by omega
  clear hW5 u25 bS bG hY u2 U1 hT c0 c1 c2 c3 HCl HC hx hgz hzR
  go_upto_region 6 with fail
  clear r1 r2 r3 r4 r5
  go_loopw [24] (fun s24 wr => TuO K ps ys g G s24 wr ∧ SdB [.string s, .slice (some ⟨g, 0, none⟩) n c', .slice G m d, .int .i64 f] x (w.heap.size + 1) w wr) (fun s24 _ => K - (intOf s24).toNat)
  case atStart => exact ⟨⟨0, by omega, rfl, bG5, hY5⟩, hT5⟩
  case round =>
    clear bG5 hY5 hT5
    obtain ⟨hO, hT⟩ := hrel
    obtain ⟨o, ho, rfl, bG, hY⟩ := hO
    by_cases hlo : o < K
    · have ki1 : (o : Int) < (K : Int) := by omega
      have kwk : IntKind.i64.wrap ((o : Int) + 1) = (o : Int) + 1 := IntWalk.i64_in _ ⟨by omega, by omega⟩
      have hstP : trN (o + 1) ps = (trN o ps).map trP := rfl
      have hstY : tyN (o + 1) ys = (tyN o ys).map tyP := rfl
      have hoE := unhide HLo o
      obtain ⟨PJ, hPJ⟩ : ∃ P, trN o ps = P := ⟨_, rfl⟩
      obtain ⟨YJ, hYJ⟩ : ∃ P, tyN o ys = P := ⟨_, rfl⟩
      have HNJ := hide (show PJ.length = n by rw [← hPJ, trN_len]; exact unhide HNN)
      have HMJ := hide (show YJ.length = m by rw [← hYJ, tyN_len]; exact unhide HMM)
      rw [hPJ] at bG hstP hoE
      rw [hYJ] at hY hstY hoE
      obtain ⟨_, _, _, hokJ, hoyJ, _⟩ := loE_ok hoE
      have HOkJ := hide (fun k (hk : k < PJ.length) => (okP_iff _).1 (okPs_get hokJ hk))
      have HOyJ := hide (fun k (hk : k < YJ.length) => (show okY YJ[k] = true from List.all_eq_true.1 (show YJ.all okY = true from hoyJ) YJ[k] (List.getElem_mem hk)))
      have hYxJ : YJ = [] ∨ ∃ gy, G = some ⟨gy, 0, none⟩ ∧ gy < x := hYx.imp (fun h => by
        have q := unhide HMJ
        have q2 := unhide HMM
        rw [h] at q2
        rw [← q2] at q
        exact List.eq_nil_of_length_eq_zero q) id
      have HSP := hide hstP
      have HSY := hide hstY
      clear hPJ hYJ hstP hstY hoE hokJ hoyJ
      obtain ⟨wo, rfl⟩ : ∃ wo, wo = wr := ⟨_, rfl⟩
      have c1 := (hT.1 1 _ rfl).1
      go_upto_region 8 with fail
      clear c1
      have e0 := td_0 PJ
      rw [← e0] at bG
      go_loopw [29] (fun s29 wx => ∃ k : Nat, k ≤ n ∧ s29 = .int .i64 k ∧ Bx wx g (cellsPc (tdL PJ k)) ∧ RowY wx (g + 1) G YJ ∧ SdB [.string s, .slice (some ⟨g, 0, none⟩) n c', .slice G m d, .int .i64 f] x (w.heap.size + 1) w wx) (fun s29 _ => n - (intOf s29).toNat)
      case atStart => exact ⟨0, by omega, rfl, bG, hY, hT⟩
      case round =>
        clear bG hT hY e0
        obtain ⟨k, hk, rfl, bK, hY, hT⟩ := hrel
        by_cases hlt : k < n
        · have hl : k < PJ.length := by rw [unhide HNJ]; exact hlt
          have HT := fun W hb => bx_td (W := W) (g := g) hl hb
          simp only [trP, PceAt] at HT
          have hp := unhide HOkJ k hl
          obtain ⟨⟨a0, a1, a2, a3, a4, a5, a6⟩, _, _⟩ := HT wr bK
          have c1 := (hT.1 1 _ rfl).1
          unfold okPp at hp
          have h1 : IntKind.i64.wrap (PJ[k].y + PJ[k].w) = PJ[k].y + PJ[k].w := IntWalk.i64_in _ ⟨by omega, by omega⟩
          have h2 : IntKind.i64.wrap (-(PJ[k].y + PJ[k].w)) = -(PJ[k].y + PJ[k].w) := IntWalk.i64_in _ ⟨by omega, by omega⟩
          have hwk : IntKind.i64.wrap ((k : Int) + 1) = (k : Int) + 1 := IntWalk.i64_in _ ⟨by omega, by omega⟩
          have i0 : (0 : Int) ≤ (k : Int) := by omega
          have i1 : (k : Int) < (n : Int) := by omega
          have i3 : (k : Int).toNat = k := by omega
          have HT := hide HT
          clear hp
          generalize PJ[k].x = x0 at *
          generalize PJ[k].y = y at *
          generalize PJ[k].z = z at *
          generalize PJ[k].l = l1 at *
          generalize PJ[k].w = l2 at *
          generalize PJ[k].h = t at *
          generalize PJ[k].m = pm at *
          go_upto_region 10 with fail
          refine at_wpC (fun W9 hW9 => ?_)
          have u9 : Up wr W9 := by rw [hW9]; exact (by repeat' (first | (with_reducible exact up_refl _) | (with_reducible assumption) | (with_reducible refine up_alloc ?_ _) | (with_reducible refine up_drewN ?_ _) | (with_reducible refine up_drew ?_) | (with_reducible refine up_set ?_ (by first | (simp; done) | (simp; omega) | omega) _) | (refine up_trans ?_ (by with_reducible assumption))))
          have b9 : Bx W9 wr.heap.size [.int .i64 x0, .int .i64 y, .int .i64 z, .int .i64 l1, .int .i64 l2, .int .i64 t, .int .i64 pm] := by rw [hW9]; exact bx_new wr _ _
          have hgw : g < wr.heap.size := World.block_lt_of_cell? _ _ a0
          have hsw : x < wr.heap.size := World.block_lt_of_cell? _ _ c1
          have hQY : RowY wr (g + 1) G YJ → ∀ p : Addr, p.block = wr.heap.size → ∀ (W : World) (u : Value), RowY W (g + 1) G YJ → RowY (W.setCell p u) (g + 1) G YJ := fun h0 p hp W u hW => by
            rcases h0 with h0 | ⟨gy, e, hb, hz⟩
            · exact .inl h0
            · by_cases hys : YJ = []
              · exact .inl hys
              · have hgy : gy < wr.heap.size := bx_lt hb (by rw [cellsEy_len]; have := List.length_pos_iff.2 hys; omega)
                rcases hW with h0 | ⟨gz, e', hb', hz'⟩
                · exact absurd h0 hys
                · obtain rfl : gy = gz := by rw [e] at e'; simpa using e'
                  exact .inr ⟨gy, e, bx_far hb' (by omega) u, hz⟩
          have hQYy := hide (hQY hY)
          have hww : w.heap.size + 2 ≤ wr.heap.size := by omega
          obtain ⟨q, hq⟩ : ∃ q, wr.heap.size = q := ⟨_, rfl⟩
          rw [hq] at b9 hgw hsw hww hQYy ⊢
          have T9 := hT.ups u9
          have Y9 := hY.ups u9
          have bK9 := bx_up bK u9
          clear hW9 c1 a0 a1 a2 a3 a4 a5 a6 hT hY bK u9 hq hQY
          have p0 := (b9 0 _ rfl).1
          have p1 := (b9 1 _ rfl).1
          have p2 := (b9 2 _ rfl).1
          have p3 := (b9 3 _ rfl).1
          have p4 := (b9 4 _ rfl).1
          have q0 := (b9 0 _ rfl).2
          have q1 := (b9 1 _ rfl).2
          have q3 := (b9 3 _ rfl).2
          have q4 := (b9 4 _ rfl).2
          go_upto_region 11 with fail
          refine at_wpC (fun WA hWA => ?_)
          have bA : Bx WA q [.int .i64 (-(y + l2)), .int .i64 x0, .int .i64 z, .int .i64 l2, .int .i64 l1, .int .i64 t, .int .i64 pm] := by rw [hWA]; exact bx_set (bx_set (bx_set (bx_set b9 0 _) 1 _) 3 _) 4 _
          have TA : SdB [.string s, .slice (some ⟨g, 0, none⟩) n c', .slice G m d, .int .i64 f] x (w.heap.size + 1) w WA := by
            rw [hWA]
            exact ((((T9.set (p := ⟨q, 0, none⟩) (by simp only; omega) (by simp only; omega) (by simp only; omega) (.int .i64 (-(y + l2)))).set (p := ⟨q, 1, none⟩) (by simp only; omega) (by simp only; omega) (by simp only; omega) (.int .i64 x0)).set (p := ⟨q, 3, none⟩) (by simp only; omega) (by simp only; omega) (by simp only; omega) (.int .i64 l2)).set (p := ⟨q, 4, none⟩) (by simp only; omega) (by simp only; omega) (by simp only; omega) (.int .i64 l1))
          have YA : RowY WA (g + 1) G YJ := by
            rw [hWA]
            exact unhide hQYy _ (by rfl) _ _ (unhide hQYy _ (by rfl) _ _ (unhide hQYy _ (by rfl) _ _ (unhide hQYy _ (by rfl) _ _ Y9)))
          have bKA : Bx WA g (cellsPc (tdL PJ k)) := by
            rw [hWA]
            exact (bx_far (bx_far (bx_far (bx_far bK9 (p := ⟨q, 0, none⟩) (by simp only; omega) (.int .i64 (-(y + l2)))) (p := ⟨q, 1, none⟩) (by simp only; omega) (.int .i64 x0)) (p := ⟨q, 3, none⟩) (by simp only; omega) (.int .i64 l2)) (p := ⟨q, 4, none⟩) (by simp only; omega) (.int .i64 l1))
          obtain ⟨⟨a0, a1, a2, a3, a4, a5, a6⟩, hf, hN⟩ := unhide HT WA bKA
          clear hWA bK9 T9 Y9 b9 p0 p1 p2 p3 p4 q0 q1 q3 q4 HT bKA hQYy
          have HN9 := hide hN
          have f0 := hf 0 (by omega)
          have f1 := hf 1 (by omega)
          have f2 := hf 2 (by omega)
          have f3 := hf 3 (by omega)
          have f4 := hf 4 (by omega)
          have f5 := hf 5 (by omega)
          have f6 := hf 6 (by omega)
          rw [Nat.add_zero] at f0
          have p0 := (bA 0 _ rfl).1
          have p1 := (bA 1 _ rfl).1
          have p2 := (bA 2 _ rfl).1
          have p3 := (bA 3 _ rfl).1
          have p4 := (bA 4 _ rfl).1
          have p5 := (bA 5 _ rfl).1
          have p6 := (bA 6 _ rfl).1
          have c1 := (TA.1 1 _ rfl).1
          clear hf hN
          go_wp2_with fail
          have TB := (((((((TA.set (p := ⟨g, k * 7, none⟩) (by simp only; omega) (by simp only; omega) (by simp only; omega) (.int .i64 (-(y + l2)))).set (p := ⟨g, k * 7 + 1, none⟩) (by simp only; omega) (by simp only; omega) (by simp only; omega) (.int .i64 x0)).set (p := ⟨g, k * 7 + 2, none⟩) (by simp only; omega) (by simp only; omega) (by simp only; omega) (.int .i64 z)).set (p := ⟨g, k * 7 + 3, none⟩) (by simp only; omega) (by simp only; omega) (by simp only; omega) (.int .i64 l2)).set (p := ⟨g, k * 7 + 4, none⟩) (by simp only; omega) (by simp only; omega) (by simp only; omega) (.int .i64 l1)).set (p := ⟨g, k * 7 + 5, none⟩) (by simp only; omega) (by simp only; omega) (by simp only; omega) (.int .i64 t)).set (p := ⟨g, k * 7 + 6, none⟩) (by simp only; omega) (by simp only; omega) (by simp only; omega) (.int .i64 pm))
          have YB := (((((((YA.far (p := ⟨g, k * 7, none⟩) (by simp only; omega) (.int .i64 (-(y + l2)))).far (p := ⟨g, k * 7 + 1, none⟩) (by simp only; omega) (.int .i64 x0)).far (p := ⟨g, k * 7 + 2, none⟩) (by simp only; omega) (.int .i64 z)).far (p := ⟨g, k * 7 + 3, none⟩) (by simp only; omega) (.int .i64 l2)).far (p := ⟨g, k * 7 + 4, none⟩) (by simp only; omega) (.int .i64 l1)).far (p := ⟨g, k * 7 + 5, none⟩) (by simp only; omega) (.int .i64 t)).far (p := ⟨g, k * 7 + 6, none⟩) (by simp only; omega) (.int .i64 pm))
          go_roundw
          case rel => exact ⟨k + 1, by omega, by go_num, unhide HN9, YB, TB⟩
          case measure => first | (simp [intOf]; done) | (simp [intOf]; omega)
        · obtain rfl : k = n := by omega
          rw [td_n PJ (by rw [unhide HNJ]; exact Nat.le_refl _)] at bK
          have i1 : ¬ (k : Int) < (k : Int) := by omega
          have c2 := (hT.1 2 _ rfl).1
          obtain ⟨wp, rfl⟩ : ∃ wp, wp = wr := ⟨_, rfl⟩
          go_upto_region 14 with fail
          clear c2
          have e0 := md_0 tyP YJ
          rw [← e0] at hY
          go_loopw [59] (fun s59 wx => ∃ j : Nat, j ≤ m ∧ s59 = .int .i64 j ∧ Bx wx g (cellsPc (PJ.map trP)) ∧ RowY wx (g + 1) G (mdL tyP YJ j) ∧ SdB [.string s, .slice (some ⟨g, 0, none⟩) k c', .slice G m d, .int .i64 f] x (w.heap.size + 1) w wx) (fun s59 _ => m - (intOf s59).toNat)
          case atStart => exact ⟨0, by omega, rfl, bK, hY, hT⟩
          case round =>
            clear bK hT hY e0
            obtain ⟨j, hj, rfl, bP, hY, hT⟩ := hrel
            by_cases hlt : j < m
            · have hl : j < YJ.length := by rw [unhide HMJ]; exact hlt
              have hne : mdL tyP YJ j ≠ [] := by
                intro h
                have := congrArg List.length h
                simp [mdL] at this
                omega
              obtain ⟨gy, rfl, bY, hgy⟩ := hY.resolve_left hne
              obtain ⟨gy', e', hyx⟩ := hYxJ.resolve_left (by intro h; rw [h] at hl; simp at hl)
              obtain rfl : gy = gy' := by simpa using e'
              have HT := fun W hb => bx_tyY (W := W) (g := gy) hl hb
              have hp := (okY_iff _).1 (unhide HOyJ j hl)
              unfold okYp at hp
              obtain ⟨⟨a0, a1, a2, a3⟩, hf, _⟩ := HT wr bY
              have hgq : gy < wr.heap.size := World.block_lt_of_cell? _ _ a0
              have c2 := (hT.1 2 _ rfl).1
              have h1 : IntKind.i64.wrap (-YJ[j].y) = -YJ[j].y := i64_small (by omega)
              have hwk : IntKind.i64.wrap ((j : Int) + 1) = (j : Int) + 1 := IntWalk.i64_in _ ⟨by omega, by omega⟩
              have i0 : (0 : Int) ≤ (j : Int) := by omega
              have i4 : (j : Int) < (m : Int) := by omega
              have i3 : (j : Int).toNat = j := by omega
              have HTH := hide HT
              clear hp HT hf hY e'
              generalize YJ[j].x = x0 at *
              generalize YJ[j].y = y at *
              generalize YJ[j].z = z at *
              generalize YJ[j].s = t at *
              go_upto_region 16 with fail
              refine at_wpC (fun W9 hW9 => ?_)
              have u9 : Up wr W9 := by rw [hW9]; exact (by repeat' (first | (with_reducible exact up_refl _) | (with_reducible assumption) | (with_reducible refine up_alloc ?_ _) | (with_reducible refine up_drewN ?_ _) | (with_reducible refine up_drew ?_) | (with_reducible refine up_set ?_ (by first | (simp; done) | (simp; omega) | omega) _) | (refine up_trans ?_ (by with_reducible assumption))))
              have b9 : Bx W9 wr.heap.size [.int .i64 x0, .int .i64 y, .int .i64 z, .int .i64 t] := by rw [hW9]; exact bx_new wr _ _
              have T9 := hT.ups u9
              have bP9 := bx_up bP u9
              have bY9 := bx_up bY u9
              obtain ⟨_, hf, _⟩ := unhide HTH W9 bY9
              obtain ⟨⟨a0, a1, a2, a3⟩, _, _⟩ := unhide HTH W9 bY9
              have f0 : W9.frozen? ⟨gy, j * 4, none⟩ = false := hf 0 (by omega)
              have f1 := hf 1 (by omega)
              have c2 := (T9.1 2 _ rfl).1
              have p0 := (b9 0 _ rfl).1
              have p1 := (b9 1 _ rfl).1
              have hwR : w.heap.size ≤ gy := by omega
              generalize wr.heap.size = q at *
              have s0 := (bx_far b9 (p := ⟨gy, j * 4, none⟩) (by simp only; omega) (.int .i64 (-y)) 0 _ rfl).1
              have s1 := (bx_far b9 (p := ⟨gy, j * 4 + 1, none⟩) (by simp only; omega) (.int .i64 x0) 1 _ rfl).1
              have s2 := (bx_far T9.1 (p := ⟨gy, j * 4, none⟩) (by simp only; omega) (.int .i64 (-y)) 2 _ rfl).1
              clear hW9 u9 hT bP bY hf
              go_region
              have KY := bx_drew (unhide HTH W9 bY9).2.2
              have KP := bx_drew (bx_far (bx_far bP9 (p := ⟨gy, j * 4, none⟩) (by simp only; omega) (.int .i64 (-y))) (p := ⟨gy, j * 4 + 1, none⟩) (by simp only; omega) (.int .i64 x0))
              have KT := ((T9.set (p := ⟨gy, j * 4, none⟩) (by simp only; omega) (by simp only; omega) (by simp only; omega) (.int .i64 (-y))).set (p := ⟨gy, j * 4 + 1, none⟩) (by simp only; omega) (by simp only; omega) (by simp only; omega) (.int .i64 x0)).ups (up_drew (up_refl _))
              generalize ((W9.setCell ⟨gy, j * 4, none⟩ (.int .i64 (-y))).setCell ⟨gy, j * 4 + 1, none⟩ (.int .i64 x0)).drew = WB at KY KP KT ⊢
              clear bP9 bY9 T9 c2 a0 a1 a2 a3 f0 f1 HTH b9 p0 p1 s0 s1 s2
              go_wp2_with fail
              go_roundw
              case rel => exact ⟨j + 1, by omega, by first | rfl | trivial | go_num, KP, .inr ⟨gy, rfl, KY, hgy⟩, KT⟩
              case measure => first | (simp [intOf]; done) | (simp [intOf]; omega)
            · obtain rfl : j = m := by omega
              have e := md_n tyP YJ (k := j) (by rw [unhide HMJ]; exact Nat.le_refl _)
              rw [e] at hY
              have i4 : ¬ (j : Int) < (j : Int) := by omega
              go_wp2_with fail
              go_roundw
              case rel => exact ⟨⟨o + 1, by omega, by go_num, by rw [unhide HSP]; exact bP, by rw [unhide HSY]; exact hY⟩, hT⟩
              case measure => first | (simp [intOf]; done) | (simp [intOf]; omega)
    · obtain rfl : o = K := by omega
      have ki1 : ¬ (o : Int) < (o : Int) := by omega
      have hpP := pcs_bxP bG
      have hpY := hY.eyes
      have c0 := (hT.1 0 _ rfl).1
      have c1 := (hT.1 1 _ rfl).1
      have c2 := (hT.1 2 _ rfl).1
      have c3 := (hT.1 3 _ rfl).1
      go_wp2_with (go_at_call 99; (with_reducible refine (unhide HRy _ c' _ d _ hpP hpY).mono ?_); rintro e w9 ⟨rfl, u9⟩; have T9 := hT.ups u9; have r0 := (T9.2.1 0 _ rfl).1; have r1 := (T9.2.1 1 _ rfl).1; have r2 := (T9.2.1 2 _ rfl).1; have r3 := (T9.2.1 3 _ rfl).1; have f0 := (T9.2.1 0 _ rfl).2; have f1 := (T9.2.1 1 _ rfl).2; have f2 := (T9.2.1 2 _ rfl).2; have f3 := (T9.2.1 3 _ rfl).2)
      have B9 := (bx_set (bx_set (bx_set (bx_set T9.2.1 0 (.string s)) 1 (.slice (some ⟨g, 0, none⟩) n c')) 2 (.slice G m d)) 3 (.int .i64 f))
      have U9 := (up_set (up_set (up_set (up_set T9.2.2 (p := ⟨w.heap.size + 1, 0, none⟩) (by simp only; omega) (.string s)) (p := ⟨w.heap.size + 1, 1, none⟩) (by simp only; omega) (.slice (some ⟨g, 0, none⟩) n c')) (p := ⟨w.heap.size + 1, 2, none⟩) (by simp only; omega) (.slice G m d)) (p := ⟨w.heap.size + 1, 3, none⟩) (by simp only; omega) (.int .i64 f))
      have P9 := (bx_far (bx_far (bx_far (bx_far (bx_up bG u9) (p := ⟨w.heap.size + 1, 0, none⟩) (by simp only; omega) (.string s)) (p := ⟨w.heap.size + 1, 1, none⟩) (by simp only; omega) (.slice (some ⟨g, 0, none⟩) n c')) (p := ⟨w.heap.size + 1, 2, none⟩) (by simp only; omega) (.slice G m d)) (p := ⟨w.heap.size + 1, 3, none⟩) (by simp only; omega) (.int .i64 f))
      have Y9 := (((((hY.ups u9).far (p := ⟨w.heap.size + 1, 0, none⟩) (by simp only; omega) (.string s)).far (p := ⟨w.heap.size + 1, 1, none⟩) (by simp only; omega) (.slice (some ⟨g, 0, none⟩) n c')).far (p := ⟨w.heap.size + 1, 2, none⟩) (by simp only; omega) (.slice G m d)).far (p := ⟨w.heap.size + 1, 3, none⟩) (by simp only; omega) (.int .i64 f))
      generalize ((((w9.setCell ⟨w.heap.size + 1, 0, none⟩ (.string s)).setCell ⟨w.heap.size + 1, 1, none⟩ (.slice (some ⟨g, 0, none⟩) n c')).setCell ⟨w.heap.size + 1, 2, none⟩ (.slice G m d)).setCell ⟨w.heap.size + 1, 3, none⟩ (.int .i64 f)) = W9 at B9 U9 P9 Y9 ⊢
      have z0 := (B9 0 _ rfl).1
      have z1 := (B9 1 _ rfl).1
      have z2 := (B9 2 _ rfl).1
      have z3 := (B9 3 _ rfl).1
      refine bodyPost_ret (v := .tuple #[loV s (some ⟨g, 0, none⟩) n c' G m d f, .int .i64 0]) (by simp [results, Tryz.f46, go_sem, z0, z1, z2, z3]) rfl ?_
      exact ⟨⟨g, c', G, d, rfl, by omega, P9, Y9.imp id (fun ⟨gy, e, hb, hz⟩ => ⟨gy, e, hb, by omega⟩)⟩, U9⟩
end Go.Proofs.YtdehnokcjnbjoaaGreat
