/- load.reach of the example's load, without lashings. -/
import Derived.Test.YtdehnokcjnbjoaaGreatLdK
namespace Go.Proofs.YtdehnokcjnbjoaaGreat
open Go.RowKit Go.Proofs.Gn
attribute [local go_sem] Oper.semAt_some
set_option linter.unusedVariables false
theorem bx_cell {W : World} {g k : Nat} {l : List Value} {v : Value} (h : Bx W g l) (hk : l[k]? = some v) : W.cell? ⟨g, k, none⟩ = some v := (h k v hk).1
set_option maxRecDepth 100000 in
set_option maxHeartbeats 16000000 in
theorem p_reachH (s : ByteArray) (A : Option Addr) (ps : List Pce) (capA : Nat) (B : Option Addr) (m capB : Nat) (x : Int) (w : World) (hA : Pcs w A ps) (ho : okPs ps = true) (hn : ps.length ≤ 32) (hm : mas ps = 5000) :
    Calls Tryz.prog 81 #[loV s A ps.length capA B m capB 300, .slice none 0 0, shV x] w fun e w' => (∃ g c, e = .returned (.slice (some ⟨g, 0, none⟩) 8 c) ∧ Bx w' g (cellsLd huL) ∧ w.heap.size ≤ g) ∧ Up w w' := by
  have HM := hide (fun W (hW : Up w W) => (show Calls Tryz.prog 51 #[.slice A ps.length capA] W fun e w' => e = .returned (.int .i64 5000) ∧ Up W w' from by
    have q := p_mass A ps capA W (pcs_up hA hW) ho hn
    rw [hm] at q
    exact q))
  have HR := hide (fun W => p_rubs W)
  have HH := hide (fun g W (h : Bx W g (cellsLd ruL)) => p_hullR (some ⟨g, 0, none⟩) 8 W (pts_bxL h))
  have HS := hide (fun gh g c cg W h1 h2 => p_sumH gh g c cg W h1 h2)
  have e1 : IntKind.i64.wrap 5000000 = 5000000 := by decide
  have e2 : (5000000 : Int).tdiv 1000 = 5000 := by decide
  have e3 : IntKind.i64.wrap 5000 = 5000 := by decide
  obtain ⟨n, hnn⟩ : ∃ n, ps.length = n := ⟨_, rfl⟩
  rw [hnn] at HM ⊢
  clear hA ho hn hm hnn
  go_enter Tryz.func81, Tryz.ntmps81
  go_upto_region 1 with fail
  refine at_wpC (fun W0 hW0 => ?_)
  have U0 : Up w W0 := by rw [hW0]; exact (by repeat' (first | (with_reducible exact up_refl _) | (with_reducible assumption) | (with_reducible refine up_alloc ?_ _) | (with_reducible refine up_drewN ?_ _) | (with_reducible refine up_drew ?_) | (with_reducible refine up_set ?_ (by first | (simp; done) | (simp; omega) | omega) _) | (refine up_trans ?_ (by with_reducible assumption))))
  obtain ⟨bL, bS⟩ : Bx W0 w.heap.size [.string s, .slice A n capA, .slice B m capB, .int .i64 300] ∧ Bx W0 (w.heap.size + 1) [.int .i64 x, .int .i64 0, .int .i64 1000] := by
    rw [hW0]
    have q := bxd3 w [.string s, .slice A n capA, .slice B m capB, .int .i64 300] [.int .i64 x, .int .i64 0, .int .i64 1000] [] 25 61 0
    refine ⟨bx_alloc (bx_new w _ _) _, ?_⟩
    have q := bx_new (w.alloc (.cells #[.string s, .slice A n capA, .slice B m capB, .int .i64 300] 25)) [.int .i64 x, .int .i64 0, .int .i64 1000] 61
    rw [World.size_alloc] at q
    exact q
  clear hW0
  have HL := hide (fun W (hW : Up W0 W) => (⟨bx_cell (bx_up bL hW) (k := 1) rfl, bx_cell (bx_up bL hW) (k := 3) rfl, bx_cell (bx_up bS hW) (k := 2) rfl⟩ : _ ∧ _ ∧ _))
  have UI := hide (up_refl W0)
  obtain ⟨z0, z1, z2⟩ := unhide HL W0 (up_refl _)
  clear bL bS
  go_region_law (first
    | (refine step_callL _ rfl 51 #[.slice A n capA] ?_ ?_; (· (go_simp; done)); refine (unhide HM _ (up_trans U0 (by repeat' (first | (with_reducible exact up_refl _) | (with_reducible assumption) | (with_reducible refine up_alloc ?_ _) | (with_reducible refine up_drewN ?_ _) | (with_reducible refine up_drew ?_) | (with_reducible refine up_set ?_ (by first | (simp; done) | (simp; omega) | omega) _) | (refine up_trans ?_ (by with_reducible assumption)))))).mono ?_; rintro e w7 ⟨rfl, u7⟩; have U7 : Up W0 w7 := (by repeat' (first | (with_reducible exact up_refl _) | (with_reducible assumption) | (with_reducible refine up_alloc ?_ _) | (with_reducible refine up_drewN ?_ _) | (with_reducible refine up_drew ?_) | (with_reducible refine up_set ?_ (by first | (simp; done) | (simp; omega) | omega) _) | (refine up_trans ?_ (by with_reducible assumption)))); obtain ⟨y0, y1, y2⟩ := unhide HL w7 U7; refine ⟨_, rfl, ?_⟩)
    | (refine step_callL _ rfl 122 #[.int .i64 5000, .int .i64 300] ?_ ?_; (· (go_simp; done)); refine (unhide HR _).mono ?_; rintro e w8 ⟨⟨gr, rfl, br, hge⟩, u8⟩; have U8 : Up W0 w8 := (by repeat' (first | (with_reducible exact up_refl _) | (with_reducible assumption) | (with_reducible refine up_alloc ?_ _) | (with_reducible refine up_drewN ?_ _) | (with_reducible refine up_drew ?_) | (with_reducible refine up_set ?_ (by first | (simp; done) | (simp; omega) | omega) _) | (refine up_trans ?_ (by with_reducible assumption)))); obtain ⟨x0, x1, x2⟩ := unhide HL w8 U8; refine ⟨_, rfl, ?_⟩)
    | (refine step_callL _ rfl 121 #[.slice (some ⟨gr, 0, none⟩) 8 8] ?_ ?_; (· (go_simp; done)); refine (unhide HH gr _ (bx_up br (by repeat' (first | (with_reducible exact up_refl _) | (with_reducible assumption) | (with_reducible refine up_alloc ?_ _) | (with_reducible refine up_drewN ?_ _) | (with_reducible refine up_drew ?_) | (with_reducible refine up_set ?_ (by first | (simp; done) | (simp; omega) | omega) _) | (refine up_trans ?_ (by with_reducible assumption)))))).mono ?_; rintro e w9 ⟨⟨gh, ch, rfl, bh, hgh⟩, u9⟩; have U9 : Up W0 w9 := (by repeat' (first | (with_reducible exact up_refl _) | (with_reducible assumption) | (with_reducible refine up_alloc ?_ _) | (with_reducible refine up_drewN ?_ _) | (with_reducible refine up_drew ?_) | (with_reducible refine up_set ?_ (by first | (simp; done) | (simp; omega) | omega) _) | (refine up_trans ?_ (by with_reducible assumption)))); obtain ⟨v0, v1, v2⟩ := unhide HL w9 U9; refine ⟨_, rfl, ?_⟩))
  all_goals
    have b10 := bx_new w9 [.slice (some ⟨gh, 0, none⟩) 8 ch] 37
    have P10 := pts_bxL (bx_alloc bh (.cells #[.slice (some ⟨gh, 0, none⟩) 8 ch] 37))
    have U10 := up_trans U0 (up_alloc U9 (.cells #[.slice (some ⟨gh, 0, none⟩) 8 ch] 37))
    clear z0 z1 z2 y0 y1 y2 x0 x1 x2 v0 v1 v2 bh
    change Bx (w9.alloc (.cells #[.slice (some ⟨gh, 0, none⟩) 8 ch] 37)) w9.heap.size [.slice (some ⟨gh, 0, none⟩) 8 ch] at b10
    generalize w9.alloc (.cells #[.slice (some ⟨gh, 0, none⟩) 8 ch] 37) = W10 at b10 P10 U10 ⊢
    generalize w9.heap.size = g10 at b10 ⊢
    clear u7 U7 br hge u8 U8 u9 U9 hgh
    go_upto_region 3 with fail
    go_loopw [7, 28] (fun s7 s28 wr => s7 = .slice (some ⟨g10, 0, none⟩) 1 1 ∧ s28 = .int .i64 0 ∧ Bx wr g10 [.slice (some ⟨gh, 0, none⟩) 8 ch] ∧ Pts wr (some ⟨gh, 0, none⟩) huL ∧ Up w wr) (fun _ _ _ => 0)
    case atStart => exact ⟨rfl, rfl, b10, P10, U10⟩
    case round =>
      clear b10 P10 U10
      obtain ⟨rfl, rfl, b10, P10, U10⟩ := hrel
      have c10 := bx_cell b10 (k := 0) rfl
      go_wp2_with (go_at_call 124; (with_reducible refine (unhide HS g10 gh 1 ch _ c10 P10).mono ?_); rintro e w11 ⟨⟨qq, cq, rfl, bq, hqq⟩, u11⟩)
      go_ret
      exact ⟨⟨qq, cq, rfl, bq, by have := U10.size; omega⟩, up_trans U10 u11⟩
end Go.Proofs.YtdehnokcjnbjoaaGreat
