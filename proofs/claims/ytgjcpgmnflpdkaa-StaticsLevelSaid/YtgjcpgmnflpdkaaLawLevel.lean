/- StaticsLevel: the law's function returns true. -/
import Derived.Test.YtgjcpgmnflpdkaaLevW
import Derived.Test.YtgjcpgmnflpdkaaOpenI16s
import Derived.Test.YtgjcpgmnflpdkaaKnown
namespace Go.Proofs.Ytgjcpgmnflpdkaa
open Go.RowKit Go.Proofs.Gn
set_option maxRecDepth 100000 in
set_option maxHeartbeats 40000000 in
theorem l_Level (A : Option Addr) (ps : List Gs.Sup) (cap : Nat) (le ra : Int) (Bg : Option Addr) (gr : List Int) (capg : Nat) (w : World) (hp : Sups w A ps) (hn : ps.length ≤ 9223372036854775807) (hle : 0 ≤ le ∧ le ≤ 255) (hra : 0 ≤ ra ∧ ra ≤ 255) (hg : Shorts w Bg gr) (hng : gr.length ≤ 9223372036854775807) :
    Calls Try.prog 10 #[.slice A ps.length cap, .int .u8 le, .int .u8 ra, .slice Bg gr.length capg] w fun e w' => e = .returned (.bool true) ∧ Below w.heap.size w w' := by
  have hS := hide (fun (W : World) (hW : Up w W) => p_Sums A ps cap hn W (sups_up hp hW))
  by_cases cE : chE ps = 0
  rotate_left
  · have hC := hide (fun (W : World) (hW : Up w W) => p_Check A ps cap W (sups_up hp hW) hn)
    clear hp hg
    unfold suV at hS
    simp only [if_neg cE] at hS
    obtain ⟨n, hN⟩ : ∃ n, ps.length = n := ⟨_, rfl⟩
    obtain ⟨m, hM⟩ : ∃ n, gr.length = n := ⟨_, rfl⟩
    rw [hN] at hS hC hn ⊢
    rw [hM] at hng ⊢
    clear hN hM
    generalize chE ps = E at *
    have c2 : (E == 0) = false := by simp; exact cE
    go_enter Try.func10, Try.ntmps10
    go_wp2_with (first | (go_at_call 16; (with_reducible refine (unhide hS _ (by repeat' (first | (with_reducible exact up_refl _) | (with_reducible assumption) | (with_reducible refine up_alloc ?_ _) | (with_reducible refine up_drewN ?_ _) | (with_reducible refine up_drew ?_) | (with_reducible refine up_set ?_ (by first | (simp; done) | (simp; omega) | omega) _) | (refine up_trans ?_ (by with_reducible assumption))))).mono ?_); rintro e w1 ⟨rfl, hb1⟩) | (go_at_call 25; (with_reducible refine (unhide hC _ (by repeat' (first | (with_reducible exact up_refl _) | (with_reducible assumption) | (with_reducible refine up_alloc ?_ _) | (with_reducible refine up_drewN ?_ _) | (with_reducible refine up_drew ?_) | (with_reducible refine up_set ?_ (by first | (simp; done) | (simp; omega) | omega) _) | (refine up_trans ?_ (by with_reducible assumption))))).mono ?_); rintro e w2 ⟨rfl, hb2⟩) | (go_at_call 15; refine (l_known _).mono ?_; rintro e w3 ⟨rfl, hb3⟩))
    go_ret
    exact ⟨rfl, (by repeat' (first | (with_reducible exact up_refl _) | (with_reducible assumption) | (with_reducible refine up_alloc ?_ _) | (with_reducible refine up_drewN ?_ _) | (with_reducible refine up_drew ?_) | (with_reducible refine up_set ?_ (by first | (simp; done) | (simp; omega) | omega) _) | (refine up_trans ?_ (by with_reducible assumption))))⟩
  have hok := chE_ok cE
  obtain ⟨K0, K1, K2, E0, E1, E2, u, v, k0, k1, k2, e0, e1, e2, hall⟩ := lev_all cE (c := le + 1000) (r := ra) (by omega) hra (f := hgt gr) (fun k => tm_bd _)
  have hfb := hide (⟨fill_bd cE (c := le + 1000) (by omega) 0 (.inl rfl), fill_bd cE (c := le + 1000) (by omega) 1 (.inr (.inl rfl)), fill_bd cE (c := le + 1000) (by omega) 2 (.inr (.inr rfl))⟩ : (0 ≤ (le + 1000) * Gs.cN 0 ps ∧ (le + 1000) * Gs.cN 0 ps ≤ 196608) ∧ (0 ≤ (le + 1000) * Gs.cN 1 ps ∧ (le + 1000) * Gs.cN 1 ps ≤ 196608) ∧ (0 ≤ (le + 1000) * Gs.cN 2 ps ∧ (le + 1000) * Gs.cN 2 ps ≤ 196608))
  have hlq : (ps.map md).length = ps.length := List.length_map _
  have P0 := hide (fun (W : World) (g cq : Nat) (B : Option Addr) (cg : Nat) (a : Sups W (some ⟨g, 0, none⟩) (ps.map md)) (b : Ints W B (lst (fun _ => 500) ps.length)) => p_Strokes (some ⟨g, 0, none⟩) (ps.map md) cq B (lst (fun _ => 500) ps.length) cg ((le + 1000) * Gs.cN 0 ps) ((le + 1000) * Gs.cN 1 ps) ((le + 1000) * Gs.cN 2 ps) K0 k0 (by omega) (by rw [lst_len]; omega) W a b)
  have P1 := hide (fun (W : World) (g cq : Nat) (B : Option Addr) (cg : Nat) (a : Sups W (some ⟨g, 0, none⟩) (ps.map md)) (b : Ints W B (lst (hgt gr) ps.length)) => p_Strokes (some ⟨g, 0, none⟩) (ps.map md) cq B (lst (hgt gr) ps.length) cg ((le + 1000) * Gs.cN 0 ps) ((le + 1000) * Gs.cN 1 ps) ((le + 1000) * Gs.cN 2 ps) K1 k1 (by omega) (by rw [lst_len]; omega) W a b)
  have P2 := hide (fun (W : World) (g cq : Nat) (B : Option Addr) (cg : Nat) (a : Sups W (some ⟨g, 0, none⟩) (ps.map md)) (b : Ints W B (lst (fun k => hgt gr k + ra) ps.length)) => p_Strokes (some ⟨g, 0, none⟩) (ps.map md) cq B (lst (fun k => hgt gr k + ra) ps.length) cg ((le + 1000) * Gs.cN 0 ps) ((le + 1000) * Gs.cN 1 ps) ((le + 1000) * Gs.cN 2 ps) K2 k2 (by omega) (by rw [lst_len]; omega) W a b)
  rw [e0] at P0
  rw [e1] at P1
  rw [e2] at P2
  clear e0 e1 e2 k0 k1 k2
  generalize stL (ps.map md) (lst (fun _ => 500) ps.length) ((le + 1000) * Gs.cN 0 ps) ((le + 1000) * Gs.cN 1 ps) ((le + 1000) * Gs.cN 2 ps) K0 = M0 at *
  generalize stL (ps.map md) (lst (hgt gr) ps.length) ((le + 1000) * Gs.cN 0 ps) ((le + 1000) * Gs.cN 1 ps) ((le + 1000) * Gs.cN 2 ps) K1 = M1 at *
  generalize stL (ps.map md) (lst (fun k => hgt gr k + ra) ps.length) ((le + 1000) * Gs.cN 0 ps) ((le + 1000) * Gs.cN 1 ps) ((le + 1000) * Gs.cN 2 ps) K2 = M2 at *
  simp only [lst_len] at P0 P1 P2
  unfold suV at hS
  simp only [if_pos cE] at hS
  rw [hlq] at P0 P1 P2
  have rw0 := Gs.row_of hok.1 hok.2.1 0 (.inl rfl)
  have rw1 := Gs.row_of hok.1 hok.2.1 1 (.inr (.inl rfl))
  have rw2 := Gs.row_of hok.1 hok.2.1 2 (.inr (.inr rfl))
  have HALL := hide hall
  clear hall hlq
  generalize Gs.cN 0 ps = n0 at *
  generalize Gs.cX 0 ps = x0 at *
  generalize Gs.cY 0 ps = y0 at *
  generalize Gs.cN 1 ps = n1 at *
  generalize Gs.cX 1 ps = x1 at *
  generalize Gs.cY 1 ps = y1 at *
  generalize Gs.cN 2 ps = n2 at *
  generalize Gs.cX 2 ps = x2 at *
  generalize Gs.cY 2 ps = y2 at *
  rcases hp with hx | ⟨ba, off, rfl, hc⟩
  · rw [hx] at hok; exact absurd hok.2.2.1 (by simp)
  have HC := hide hc
  have HG := hide hg
  have hlen := hok.2.1
  have hlen3 := hok.2.2.1
  have hpos : 0 < ps.length := by omega
  clear hc hg hok hn
  rw [cE] at hS
  obtain ⟨i0', hi, hz0, hz1, hz2⟩ := info_parts info_i64I
  obtain ⟨i1', hj, hy0, hy1, hy2⟩ := info_parts info_sup
  have HI := hide hi
  have HJ := hide hj
  clear hi hj
  obtain ⟨n, hN⟩ : ∃ n, ps.length = n := ⟨_, rfl⟩
  obtain ⟨m, hM⟩ : ∃ n, gr.length = n := ⟨_, rfl⟩
  have HN := hide hN
  have HM := hide hM
  rw [hN] at hS P0 P1 P2 HALL hlen hlen3 ⊢
  rw [hM] at hng ⊢
  clear hN hM
  go_enter Try.func10, Try.ntmps10
  go_upto_region 4 with (go_at_call 16; (with_reducible refine (unhide hS _ (by repeat' (first | (with_reducible exact up_refl _) | (with_reducible assumption) | (with_reducible refine up_alloc ?_ _) | (with_reducible refine up_drewN ?_ _) | (with_reducible refine up_drew ?_) | (with_reducible refine up_set ?_ (by first | (simp; done) | (simp; omega) | omega) _) | (refine up_trans ?_ (by with_reducible assumption))))).mono ?_); rintro e w1 ⟨rfl, hb1⟩)
  refine at_wp (fun W1 hW1 => ?_)
  have U1 : Up w W1 := by rw [hW1]; exact (by repeat' (first | (with_reducible exact up_refl _) | (with_reducible assumption) | (with_reducible refine up_alloc ?_ _) | (with_reducible refine up_drewN ?_ _) | (with_reducible refine up_drew ?_) | (with_reducible refine up_set ?_ (by first | (simp; done) | (simp; omega) | omega) _) | (refine up_trans ?_ (by with_reducible assumption))))
  have N1 : Bx W1 w1.heap.size [.int .i64 n0, .int .i64 x0, .int .i64 y0, .int .i64 n1, .int .i64 x1, .int .i64 y1, .int .i64 n2, .int .i64 x2, .int .i64 y2] := by rw [hW1]; exact bx_new w1 _ 31
  clear hW1 hb1 hS
  obtain ⟨b9, hb9⟩ : ∃ b, w1.heap.size = b := ⟨_, rfl⟩
  rw [hb9] at N1 ⊢
  clear hb9
  have news : ∀ j u, (cellsS ps)[j]? = some u → (W1.alloc (.cells #[] 61)).cell? ((⟨ba, off, none⟩ : Addr).add j) = some u := cellsS_news fun k hk => supAt_up (unhide HC k hk) (up_alloc U1 _)
  have HNW := hide news
  have hls : (cellsS ps).length = n * 6 := by rw [cellsS_length, unhide HN]
  clear news
  go_wp2_with (at_builtin; refine wpList_append_own _ rfl _ _ 27 rfl W1.heap.size 61 i1' _ 6 48 Try.underlying27 (unhide HJ) hy0 hy1 hy2 rfl (by decide) (.slice (some ⟨W1.heap.size, 0, none⟩) 0 0) 0 [] rfl (World.ownsRow_made W1 #[] 0 (Nat.le_refl _) (by unfold maxLen; omega) rfl) ⟨ba, off, none⟩ n cap (cellsS ps) rfl hls (unhide HNW) (cellsS_one ps) (by unfold maxLen; omega) (by omega) (by simp) ?_; intro vq W2 hown hgrow _)
  simp only [Nat.zero_add, List.nil_append] at hown
  rcases hown.2 with ⟨_, h0⟩ | ⟨g, cq, cur, rfl, hbg, hgg, _⟩
  · omega
  have hglt : g < W2.heap.size := (Array.getElem?_eq_some_iff.1 hgg).1
  have h9 := bx_lt N1 (by simp)
  have N2 : Bx W2 b9 [.int .i64 n0, .int .i64 x0, .int .i64 y0, .int .i64 n1, .int .i64 x1, .int .i64 y1, .int .i64 n2, .int .i64 x2, .int .i64 y2] := bx_same (bx_alloc N1 _) (hgrow.block b9 (by simp; omega) (by intro e; simp [Value.ownBlock] at e; omega))
  have U2 : Up w W2 := (up_alloc U1 _).grown hgrow (up_alloc U1 _).size (by intro j hj; simp [Value.ownBlock] at hj; subst hj; exact U1.size)
  have Q2 : QAt W2 g ps 0 := q_new hown
  have hU1 := U1.size
  have LV : Lev w W2 g b9 ps [.int .i64 n0, .int .i64 x0, .int .i64 y0, .int .i64 n1, .int .i64 x1, .int .i64 y1, .int .i64 n2, .int .i64 x2, .int .i64 y2] 0 W2 (.slice none 0 0) (.slice none 0 0) (.slice none 0 0) 0 0 0 (lst (fun _ => 500) 0) (lst (hgt gr) 0) (lst (fun k => hgt gr k + ra) 0) :=
    ⟨World.ownsRow_nil _ _ _ _, World.ownsRow_nil _ _ _ _, World.ownsRow_nil _ _ _ _, apart_nil _, apart_nil _, apart_nil _, Q2, N2, U2, hglt, by omega, by omega, by omega, U2.size, Nat.le_refl _⟩
  have HLV := hide LV
  clear LV hown hgg hgrow N1 N2 U1 U2 Q2 HNW hls HC h9 hbg hglt hU1
  go_wp2_with fail
  go_loopw [12, 13, 14, 15] (fun s12 s13 s14 s15 wr => ∃ k : Nat, k ≤ n ∧ s15 = .int .i64 k ∧ Lev w W2 g b9 ps [.int .i64 n0, .int .i64 x0, .int .i64 y0, .int .i64 n1, .int .i64 x1, .int .i64 y1, .int .i64 n2, .int .i64 x2, .int .i64 y2] k wr s12 s13 s14 k k k (lst (fun _ => 500) k) (lst (hgt gr) k) (lst (fun k => hgt gr k + ra) k)) (fun _ _ _ s15 _ => n - (intOf s15).toNat)
  case atStart => exact ⟨0, by omega, rfl, unhide HLV⟩
  case round =>
    obtain ⟨k, hk, rfl, hL⟩ := hrel
    clear HLV
    by_cases hlt : k < n
    · as_aux_lemma =>
      clear P0 P1 P2 HALL hfb
      have hl : k < ps.length := by rw [unhide HN]; exact hlt
      obtain ⟨⟨_, _, _, _, c4, c5⟩, f4, f5⟩ := hL.q k hl
      rw [if_neg (by omega)] at c4 c5
      have c4' := c4
      have c5' := c5
      have f4' := f4
      have f5' := f5
      rw [Nat.zero_add] at c4' c5' f4' f5'
      have LS := hide (lev_set hL hl)
      have HL := hide hL
      clear hL
      have i0 : (0 : Int) ≤ (k : Int) := by omega
      have i1 : (k : Int) < (n : Int) := by omega
      obtain ⟨r1, r2⟩ := hra
      have tb := tm_bd ((gr[k]?).getD 0)
      have hkv : hgt gr k = Int.tmod ((gr[k]?).getD 0) 1000 := rfl
      obtain ⟨hk', hhk⟩ : ∃ z, Int.tmod ((gr[k]?).getD 0) 1000 = z := ⟨_, rfl⟩
      rw [hhk] at tb hkv
      obtain ⟨tb1, tb2⟩ := tb
      go_upto_region 11 with fail
      refine at_wp (fun W3 hW3 => ?_)
      have L0 : Hid (Lev w W2 g b9 ps [.int .i64 n0, .int .i64 x0, .int .i64 y0, .int .i64 n1, .int .i64 x1, .int .i64 y1, .int .i64 n2, .int .i64 x2, .int .i64 y2] (k + 1) W3 u12 u13 u14 k k k (lst (fun _ => 500) k) (lst (hgt gr) k) (lst (fun k => hgt gr k + ra) k)) := hide (by rw [hW3]; simpa using unhide LS)
      have U3 := (unhide L0).up
      clear hW3 LS HL c4 c5 c4' c5' f4 f5 f4' f5'
      by_cases hm : k < m
      · have hm2 : k < gr.length := by rw [unhide HM]; exact hm
        obtain ⟨bg, offg, rfl, hcg⟩ := (unhide HG).resolve_left (by intro e; rw [e] at hm2; simp at hm2)
        obtain ⟨cg, cb1, cb2⟩ := hcg k hm2
        have cg3 := up_cell U3 cg
        have hgx : (gr[k]?).getD 0 = gr[k] := by rw [List.getElem?_eq_getElem hm2]; rfl
        rw [hgx] at hhk
        obtain ⟨y, hy⟩ : ∃ y, gr[k] = y := ⟨_, rfl⟩
        rw [hy] at cg3 cb1 cb2 hhk
        have i2 : (k : Int) < (m : Int) := by omega
        have ew : IntKind.i64.wrap y = y := IntWalk.i64_in _ ⟨by omega, by omega⟩
        have ew2 : IntKind.i64.wrap (Int.tmod y 1000) = hk' := by rw [hhk]; exact IntWalk.i64_in _ ⟨by omega, by omega⟩
        have ew3 : IntKind.i64.wrap (hk' + ra) = hk' + ra := IntWalk.i64_in _ ⟨by omega, by omega⟩
        clear cg hcg hy U3
        go_upto_region 14 with fail
        (try rw [hhk])
        clear cg3 cb1 cb2 hhk ew ew2 hgx
        go_upto_region 15 with (at_builtin; refine wpList_append_own_at _ rfl _ _ 53 rfl W2.heap.size 2 i0' _ 1 8 Try.underlying53 (unhide HI) hz0 hz1 hz2 rfl (by decide) _ k (cellsI (lst (fun _ => 500) k)) rfl ((unhide L0).o1.alloc _) ⟨W3.heap.size, 0, none⟩ 1 1 [.int .i64 500] rfl rfl (one_newI _ _ _) (by intro u hu; simp at hu; rcases hu with rfl; rfl) (by unfold maxLen; omega) (by omega) (by have := (unhide L0).sz; simp; omega) ?_; intro v1 X1 hown1 hgr1 _ hat1)
        have L1 := hide (lev_rot (lev_app (lev_up (unhide L0) (by rw [unhide HN]; omega) (by simp) (up_alloc (up_refl _) _)) (by rw [unhide HN]; omega) (by simp) hown1 hgr1 hat1))
        clear hown1 hgr1 hat1 L0
        go_upto_region 16 with (at_builtin; refine wpList_append_own_at _ rfl _ _ 53 rfl W2.heap.size 2 i0' _ 1 8 Try.underlying53 (unhide HI) hz0 hz1 hz2 rfl (by decide) _ k (cellsI (lst (hgt gr) k)) rfl ((unhide L1).o1.alloc _) ⟨X1.heap.size, 0, none⟩ 1 1 [.int .i64 hk'] rfl rfl (one_newI _ _ _) (by intro u hu; simp at hu; rcases hu with rfl; rfl) (by unfold maxLen; omega) (by omega) (by have := (unhide L1).sz; simp; omega) ?_; intro v2 X2 hown2 hgr2 _ hat2)
        have L2 := hide (lev_rot (lev_app (lev_up (unhide L1) (by rw [unhide HN]; omega) (by simp) (up_alloc (up_refl _) _)) (by rw [unhide HN]; omega) (by simp) hown2 hgr2 hat2))
        clear hown2 hgr2 hat2 L1
        go_upto_region 8 with (at_builtin; refine wpList_append_own_at _ rfl _ _ 53 rfl W2.heap.size 2 i0' _ 1 8 Try.underlying53 (unhide HI) hz0 hz1 hz2 rfl (by decide) _ k (cellsI (lst (fun k => hgt gr k + ra) k)) rfl ((unhide L2).o1.alloc _) ⟨X2.heap.size, 0, none⟩ 1 1 [.int .i64 (hk' + ra)] rfl rfl (one_newI _ _ _) (by intro u hu; simp at hu; rcases hu with rfl; rfl) (by unfold maxLen; omega) (by omega) (by have := (unhide L2).sz; simp; omega) ?_; intro v3 X3 hown3 hgr3 _ hat3)
        have L3 := hide (lev_rot (lev_app (lev_up (unhide L2) (by rw [unhide HN]; omega) (by simp) (up_alloc (up_refl _) _)) (by rw [unhide HN]; omega) (by simp) hown3 hgr3 hat3))
        clear hown3 hgr3 hat3 L2
        have L4 := unhide L3
        have s1 : lst (fun _ => (500 : Int)) k ++ [500] = lst (fun _ => 500) (k + 1) := (lst_succ _ _).symm
        have s2 : lst (hgt gr) k ++ [hk'] = lst (hgt gr) (k + 1) := by rw [lst_succ, hkv]
        have s3 : lst (fun k => hgt gr k + ra) k ++ [hk' + ra] = lst (fun k => hgt gr k + ra) (k + 1) := by rw [lst_succ (fun k => hgt gr k + ra) k, hkv]
        rw [s1, s2, s3] at L4
        clear s1 s2 s3
        have L5 := hide L4
        clear L3 L4
        go_wp2_with fail
        go_roundw
        case rel => exact ⟨k + 1, by omega, by go_num, unhide L5⟩
        case measure => simp [intOf]; omega
      · have i2 : ¬ (k : Int) < (m : Int) := by omega
        have hz' : hk' = 0 := by rw [← hhk, List.getElem?_eq_none (by rw [unhide HM]; omega)]; rfl
        subst hz'
        have ewr : IntKind.i64.wrap ra = ra := IntWalk.i64_in _ ⟨by omega, by omega⟩
        clear hhk U3
        go_upto_region 14 with fail
        go_upto_region 15 with (at_builtin; refine wpList_append_own_at _ rfl _ _ 53 rfl W2.heap.size 2 i0' _ 1 8 Try.underlying53 (unhide HI) hz0 hz1 hz2 rfl (by decide) _ k (cellsI (lst (fun _ => 500) k)) rfl ((unhide L0).o1.alloc _) ⟨W3.heap.size, 0, none⟩ 1 1 [.int .i64 500] rfl rfl (one_newI _ _ _) (by intro u hu; simp at hu; rcases hu with rfl; rfl) (by unfold maxLen; omega) (by omega) (by have := (unhide L0).sz; simp; omega) ?_; intro v1 X1 hown1 hgr1 _ hat1)
        have L1 := hide (lev_rot (lev_app (lev_up (unhide L0) (by rw [unhide HN]; omega) (by simp) (up_alloc (up_refl _) _)) (by rw [unhide HN]; omega) (by simp) hown1 hgr1 hat1))
        clear hown1 hgr1 hat1 L0
        go_upto_region 16 with (at_builtin; refine wpList_append_own_at _ rfl _ _ 53 rfl W2.heap.size 2 i0' _ 1 8 Try.underlying53 (unhide HI) hz0 hz1 hz2 rfl (by decide) _ k (cellsI (lst (hgt gr) k)) rfl ((unhide L1).o1.alloc _) ⟨X1.heap.size, 0, none⟩ 1 1 [.int .i64 0] rfl rfl (one_newI _ _ _) (by intro u hu; simp at hu; rcases hu with rfl; rfl) (by unfold maxLen; omega) (by omega) (by have := (unhide L1).sz; simp; omega) ?_; intro v2 X2 hown2 hgr2 _ hat2)
        have L2 := hide (lev_rot (lev_app (lev_up (unhide L1) (by rw [unhide HN]; omega) (by simp) (up_alloc (up_refl _) _)) (by rw [unhide HN]; omega) (by simp) hown2 hgr2 hat2))
        clear hown2 hgr2 hat2 L1
        go_upto_region 8 with (at_builtin; refine wpList_append_own_at _ rfl _ _ 53 rfl W2.heap.size 2 i0' _ 1 8 Try.underlying53 (unhide HI) hz0 hz1 hz2 rfl (by decide) _ k (cellsI (lst (fun k => hgt gr k + ra) k)) rfl ((unhide L2).o1.alloc _) ⟨X2.heap.size, 0, none⟩ 1 1 [.int .i64 ra] rfl rfl (one_newI _ _ _) (by intro u hu; simp at hu; rcases hu with rfl; rfl) (by unfold maxLen; omega) (by omega) (by have := (unhide L2).sz; simp; omega) ?_; intro v3 X3 hown3 hgr3 _ hat3)
        have L3 := hide (lev_rot (lev_app (lev_up (unhide L2) (by rw [unhide HN]; omega) (by simp) (up_alloc (up_refl _) _)) (by rw [unhide HN]; omega) (by simp) hown3 hgr3 hat3))
        clear hown3 hgr3 hat3 L2
        have L4 := unhide L3
        have s1 : lst (fun _ => (500 : Int)) k ++ [500] = lst (fun _ => 500) (k + 1) := (lst_succ _ _).symm
        have s2 : lst (hgt gr) k ++ [0] = lst (hgt gr) (k + 1) := by rw [lst_succ, hkv]
        have s3 : lst (fun k => hgt gr k + ra) k ++ [ra] = lst (fun k => hgt gr k + ra) (k + 1) := by rw [lst_succ (fun k => hgt gr k + ra) k, hkv]; simp
        rw [s1, s2, s3] at L4
        clear s1 s2 s3
        have L5 := hide L4
        clear L3 L4
        go_wp2_with fail
        go_roundw
        case rel => exact ⟨k + 1, by omega, by go_num, unhide L5⟩
        case measure => simp [intOf]; omega
    · obtain rfl : k = n := by omega
      have hLK := unhide (hide hL)
      obtain ⟨A1, cap1, rfl, hI1⟩ := own_ints hL.o1
      obtain ⟨A2, cap2, rfl, hI2⟩ := own_ints hL.o2
      obtain ⟨A3, cap3, rfl, hI3⟩ := own_ints hL.o3
      have hq : QAt wr g ps ps.length := by rw [unhide HN]; exact hL.q
      have hQ := q_sups hq
      have hB9 := hL.bx
      have hU := hL.up
      clear hL hLK hq
      have lA := lst_len (fun _ => (500 : Int)) k
      have lB := lst_len (hgt gr) k
      have lC := lst_len (fun j => hgt gr j + ra) k
      rw [lA, lB, lC]
      obtain ⟨l0, hl0⟩ : ∃ l, M0.length = l := ⟨_, rfl⟩
      obtain ⟨l1, hl1⟩ : ∃ l, M1.length = l := ⟨_, rfl⟩
      obtain ⟨l2, hl2⟩ : ∃ l, M2.length = l := ⟨_, rfl⟩
      rw [hl0] at P0
      rw [hl1] at P1
      rw [hl2] at P2
      have HL0 := hide hl0
      have HL1 := hide hl1
      have HL2 := hide hl2
      clear hl0 hl1 hl2 lA lB lC
      have z0 := (hB9 0 _ rfl).1
      have z3 := (hB9 3 _ rfl).1
      have z6 := (hB9 6 _ rfl).1
      obtain ⟨⟨b1, b2⟩, ⟨b3, b4⟩, b5, b6⟩ := unhide hfb
      obtain ⟨le1, le2⟩ := hle
      unfold Gs.Row at rw0 rw1 rw2
      obtain ⟨⟨_, _⟩, _, _⟩ := rw0
      obtain ⟨⟨_, _⟩, _, _⟩ := rw1
      obtain ⟨⟨_, _⟩, _, _⟩ := rw2
      go_upto_region 19 with fail
      refine at_wp (fun W5 hW5 => ?_)
      have u5 : Up wr W5 := by rw [hW5]; exact (by repeat' (first | (with_reducible exact up_refl _) | (with_reducible assumption) | (with_reducible refine up_alloc ?_ _) | (with_reducible refine up_drewN ?_ _) | (with_reducible refine up_drew ?_) | (with_reducible refine up_set ?_ (by first | (simp; done) | (simp; omega) | omega) _) | (refine up_trans ?_ (by with_reducible assumption))))
      have F5 : Bx W5 wr.heap.size [.int .i64 ((le + 1000) * n0), .int .i64 ((le + 1000) * n1), .int .i64 ((le + 1000) * n2)] := by rw [hW5]; exact bx_new wr _ 30
      have Q5 := sups_up hQ u5
      have I1 := ints_up hI1 u5
      have I2 := ints_up hI2 u5
      have I3 := ints_up hI3 u5
      have U5 := up_trans hU u5
      clear hW5 u5 hQ hI1 hI2 hI3 hU hB9 z0 z3 z6 b1 b2 b3 b4 b5 b6 hfb
      obtain ⟨x0', x1', x2'⟩ := bx3 F5
      go_upto_region 20 with (go_at_call 35; (with_reducible refine (unhide P0 _ g cq A1 cap1 Q5 I1).mono ?_); rintro e w6 ⟨⟨A', c', rfl, hI'⟩, hb6⟩)
      have Q6 := sups_up Q5 hb6
      have I2' := ints_up I2 hb6
      have I3' := ints_up I3 hb6
      have F6 := bx_up F5 hb6
      have U6 := up_trans U5 hb6
      clear Q5 I1 I2 I3 F5 U5 hb6 x0' x1' x2' P0
      obtain ⟨y0', y1', y2'⟩ := bx3 F6
      rcases unhide HALL with rfl | ⟨rfl, ⟨z, hz, hzb⟩, hE1, hE2, h12⟩
      · clear HALL P1 P2
        go_wp2_with (go_at_call 15; refine (l_known _).mono ?_; rintro e w7 ⟨rfl, hb7⟩)
        go_ret
        exact ⟨rfl, up_trans U6 hb7⟩
      clear HALL
      subst hz
      obtain rfl : k = l0 := by rw [← unhide HL0, lst_len]
      obtain ⟨b', off', rfl, hc'⟩ := hI'.resolve_left (by intro e; have := lst_len z k; rw [e] at this; simp at this; omega)
      have HC' := hide hc'
      have HZ := hide hzb
      have HE1 := hide hE1
      have HE2 := hide hE2
      have H12 := hide h12
      clear hc' hI' hzb hE1 hE2 h12
      go_wp2_with fail
      go_loopw [21] (fun s21 wi => ∃ i : Nat, i ≤ k ∧ s21 = .int .i64 i ∧ w6 = wi) (fun s21 _ => k - (intOf s21).toNat)
      case atStart => exact ⟨0, by omega, rfl, rfl⟩
      case round =>
        obtain ⟨i, hi, rfl, rfl⟩ := hrel
        by_cases hlt2 : i < k
        · as_aux_lemma =>
          have cz := unhide HC' i (by rw [lst_len]; exact hlt2)
          rw [lst_at] at cz
          have zb := unhide HZ i hlt2
          obtain ⟨zi, hzi⟩ : ∃ x, z i = x := ⟨_, rfl⟩
          rw [hzi] at cz zb
          clear hzi P1 P2
          obtain ⟨zb1, zb2⟩ := zb
          have i0 : (0 : Int) ≤ (i : Int) := by omega
          have i1 : (i : Int) < (k : Int) := by omega
          go_wp2_with fail
          go_roundw
          case rel => exact ⟨i + 1, by omega, by go_num, (by first | rfl | trivial)⟩
          case measure => simp [intOf]; omega
        · obtain rfl : i = k := by omega
          clear HC' HZ
          go_upto_region 30 with (go_at_call 35; (with_reducible refine (unhide P1 _ g cq A2 cap2 Q6 I2').mono ?_); rintro e w7 ⟨⟨A4, c4, rfl, hI4⟩, hb7⟩)
          have Q7 := sups_up Q6 hb7
          have I7 := ints_up I3' hb7
          have F7 := bx_up F6 hb7
          have U7 := up_trans U6 hb7
          obtain ⟨y3', y4', y5'⟩ := bx3 F7
          go_upto_region 31 with (go_at_call 35; (with_reducible refine (unhide P2 _ g cq A3 cap3 Q7 I7).mono ?_); rintro e w8 ⟨⟨A5, c5, rfl, hI5⟩, hb8⟩)
          have hI6 := ints_up hI4 hb8
          have U8 := up_trans U7 hb8
          clear P1 P2 Q6 Q7 I2' I3' I7 F6 F7 y0' y1' y2' y3' y4' y5' U6 U7 hb7 hb8 hI4
          rcases unhide HE1 with rfl | ⟨rfl, hu⟩
          · rcases unhide HE2 with rfl | ⟨rfl, hv⟩
            · go_wp2_with (go_at_call 15; refine (l_known _).mono ?_; rintro e w9 ⟨rfl, hb9⟩)
              go_ret
              exact ⟨rfl, up_trans U8 hb9⟩
            · go_wp2_with (go_at_call 15; refine (l_known _).mono ?_; rintro e w9 ⟨rfl, hb9⟩)
              go_ret
              exact ⟨rfl, up_trans U8 hb9⟩
          rcases unhide HE2 with rfl | ⟨rfl, hv⟩
          · go_wp2_with (go_at_call 15; refine (l_known _).mono ?_; rintro e w9 ⟨rfl, hb9⟩)
            go_ret
            exact ⟨rfl, up_trans U8 hb9⟩
          have huv := hide (unhide H12 rfl rfl)
          clear H12 HE1 HE2
          subst hu hv
          obtain rfl : i = l1 := by rw [← unhide HL1, lst_len]
          obtain rfl : i = l2 := by rw [← unhide HL2, lst_len]
          obtain ⟨b4, off4, rfl, hc4⟩ := hI6.resolve_left (by intro e; have := lst_len u i; rw [e] at this; simp at this; omega)
          obtain ⟨b5, off5, rfl, hc5⟩ := hI5.resolve_left (by intro e; have := lst_len v i; rw [e] at this; simp at this; omega)
          have HC4 := hide hc4
          have HC5 := hide hc5
          clear hc4 hc5 hI6 hI5 HL0 HL1 HL2
          go_wp2_with fail
          go_loopw [26] (fun s26 wi => ∃ j : Nat, j ≤ i ∧ s26 = .int .i64 j ∧ Up w8 wi) (fun s26 _ => i - (intOf s26).toNat)
          case atStart => exact ⟨0, by omega, rfl, up_refl _⟩
          case round =>
            obtain ⟨j, hj, rfl, hu8⟩ := hrel
            by_cases hlt3 : j < i
            · as_aux_lemma =>
              have cu := up_cell hu8 (unhide HC4 j (by rw [lst_len]; exact hlt3))
              have cv := up_cell hu8 (unhide HC5 j (by rw [lst_len]; exact hlt3))
              rw [lst_at] at cu cv
              have zb := unhide huv j hlt3
              obtain ⟨uj, huj⟩ : ∃ x, u j = x := ⟨_, rfl⟩
              obtain ⟨vj, hvj⟩ : ∃ x, v j = x := ⟨_, rfl⟩
              rw [huj] at cu zb
              rw [hvj] at cv zb
              clear huj hvj
              obtain ⟨⟨zb1, zb2⟩, ⟨zb3, zb4⟩, zb5, zb6⟩ := zb
              have i0 : (0 : Int) ≤ (j : Int) := by omega
              have i1 : (j : Int) < (i : Int) := by omega
              have m0 : ∀ p : UpW wr, p.v.cell? ⟨b4, off4 + j, none⟩ = some (.int .i64 uj) := fun p => up_cell p.up cu
              have m1 : ∀ p : UpW wr, p.v.cell? ⟨b5, off5 + j, none⟩ = some (.int .i64 vj) := fun p => up_cell p.up cv
              obtain ⟨d1, hd1⟩ : ∃ d, uj - vj = d := ⟨_, rfl⟩
              obtain ⟨d2, hd2⟩ : ∃ d, vj - uj = d := ⟨_, rfl⟩
              have e1 : IntKind.i64.wrap (uj - vj) = d1 := by rw [← hd1]; exact IntWalk.i64_in _ ⟨by omega, by omega⟩
              have e2 : IntKind.i64.wrap (vj - uj) = d2 := by rw [← hd2]; exact IntWalk.i64_in _ ⟨by omega, by omega⟩
              have q1 : d1 ≤ 3 := by omega
              have q2 : d2 ≤ 3 := by omega
              have q3 : decide (3 < d1) = false := decide_eq_false (by omega)
              have q4 : decide (3 < d2) = false := decide_eq_false (by omega)
              have q5 : ¬ 3 < d1 := by omega
              have q6 : ¬ 3 < d2 := by omega
              clear zb1 zb2 zb3 zb4 zb5 zb6 hd1 hd2
              go_wp2_with fail
              refine wp_upq (by kernel_rfl) (by kernel_rfl) ?_; (repeat (go_big_quiet_step (fail))); refine wpQuiet_nil ?_; intro _ hw'; obtain ⟨pq, hw''⟩ := hw'; subst hw''; have hpq := pq.up
              generalize pq.v = W9 at hpq ⊢
              clear m0 m1 cu cv
              go_wp2_with fail
              go_roundw
              case rel => exact ⟨j + 1, by omega, by go_num, up_trans hu8 hpq⟩
              case measure => simp [intOf]; omega
            · obtain rfl : j = i := by omega
              go_wp2_with (go_at_call 15; refine (l_known _).mono ?_; rintro e w9 ⟨rfl, hb9⟩)
              go_ret
              exact ⟨rfl, up_trans U8 (up_trans hu8 hb9)⟩
end Go.Proofs.Ytgjcpgmnflpdkaa
