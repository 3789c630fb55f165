/- Height as it is handed out, and the document's own answer. -/
import Derived.Test.YtgjcpgmnflpdkaaRefHeight
namespace Go.Proofs.Ytgjcpgmnflpdkaa
open Go.RowKit Go.Proofs.Gn
def htE (ps : List Gs.Sup) (gs : List Int) (f0 f1 f2 X Y : Int) : Int := if laE ps gs f0 f1 f2 = 0 then (if ptE X Y = 0 then hoE ps X Y else ptE X Y) else laE ps gs f0 f1 f2
def htV (ps : List Gs.Sup) (gs : List Int) (f0 f1 f2 X Y : Int) : Int := if htE ps gs f0 f1 f2 X Y = 0 then heV ps gs f0 f1 f2 X Y else 0
theorem laE_ok {ps : List Gs.Sup} {gs : List Int} {f0 f1 f2 : Int} (h : laE ps gs f0 f1 f2 = 0) : chE ps = 0 ∧ gs.length = ps.length ∧ flB f0 f1 f2 = true ∧ gsB gs = true := by
  rcases la_cases ps gs f0 f1 f2 with ⟨a, b⟩ | ⟨_, _, b⟩ | ⟨_, _, _, b⟩ | ⟨a, b, c, d, e⟩
  · rw [b] at h; exact absurd h a
  · rw [b] at h; cases h
  · rw [b] at h; cases h
  · cases hg : gsB gs
    · rw [d hg] at h; cases h
    · exact ⟨a, b, c, rfl⟩
theorem ht_cases (ps : List Gs.Sup) (gs : List Int) (f0 f1 f2 X Y : Int) :
    (¬ laE ps gs f0 f1 f2 = 0 ∧ htE ps gs f0 f1 f2 X Y = laE ps gs f0 f1 f2 ∧ htV ps gs f0 f1 f2 X Y = 0) ∨
    (laE ps gs f0 f1 f2 = 0 ∧ ptE X Y = 3 ∧ htE ps gs f0 f1 f2 X Y = 3 ∧ htV ps gs f0 f1 f2 X Y = 0) ∨
    (laE ps gs f0 f1 f2 = 0 ∧ ptE X Y = 0 ∧ atE ps X Y = 0 ∧ ((hoB ps X Y = true ∧ htE ps gs f0 f1 f2 X Y = 4 ∧ htV ps gs f0 f1 f2 X Y = 0) ∨ (hoB ps X Y = false ∧ htE ps gs f0 f1 f2 X Y = 0 ∧ htV ps gs f0 f1 f2 X Y = heV ps gs f0 f1 f2 X Y))) := by
  unfold htV
  by_cases c : laE ps gs f0 f1 f2 = 0
  · by_cases p : ptE X Y = 0
    · right; right
      refine ⟨c, p, by unfold atE; rw [if_pos (laE_ok c).1]; exact p, ?_⟩
      have e : htE ps gs f0 f1 f2 X Y = hoE ps X Y := by unfold htE; rw [if_pos c, if_pos p]
      rw [e]
      unfold hoE
      cases hoB ps X Y
      · exact .inr ⟨rfl, rfl, rfl⟩
      · exact .inl ⟨rfl, rfl, rfl⟩
    · have p3 : ptE X Y = 3 := by unfold ptE at *; split <;> simp_all
      have e : htE ps gs f0 f1 f2 X Y = 3 := by unfold htE; rw [if_pos c, if_neg p]; exact p3
      rw [e]; exact .inr (.inl ⟨c, p3, rfl, rfl⟩)
  · have e : htE ps gs f0 f1 f2 X Y = laE ps gs f0 f1 f2 := by unfold htE; rw [if_neg c]
    rw [e, if_neg c]; exact .inl ⟨c, rfl, rfl⟩
/-- What bed.height yields where the bed is laid. -/
theorem p_bedL {ps : List Gs.Sup} {gs : List Int} {f0 f1 f2 X Y : Int} (h : laE ps gs f0 f1 f2 = 0) (hz : atE ps X Y = 0) (W : World) :
    Calls Try.prog 75 #[.agg #[.int .i64 (laV ps gs f0 f1 f2 (Gs.cN 0 ps)), .int .i64 (laV ps gs f0 f1 f2 (Gs.cX 0 ps)), .int .i64 (laV ps gs f0 f1 f2 (Gs.cY 0 ps)), .int .i64 (laV ps gs f0 f1 f2 (Gs.cN 1 ps)), .int .i64 (laV ps gs f0 f1 f2 (Gs.cX 1 ps)), .int .i64 (laV ps gs f0 f1 f2 (Gs.cY 1 ps)), .int .i64 (laV ps gs f0 f1 f2 (Gs.cN 2 ps)), .int .i64 (laV ps gs f0 f1 f2 (Gs.cX 2 ps)), .int .i64 (laV ps gs f0 f1 f2 (Gs.cY 2 ps)), .int .i64 (laV ps gs f0 f1 f2 (f0 + gk 0 ps gs ps.length)), .int .i64 (laV ps gs f0 f1 f2 (f1 + gk 1 ps gs ps.length)), .int .i64 (laV ps gs f0 f1 f2 (f2 + gk 2 ps gs ps.length))], pt X Y] W fun e w' => e = .returned (.tuple #[.int .i64 (if hoB ps X Y then 0 else heV ps gs f0 f1 f2 X Y), .int .i64 (hoE ps X Y)]) ∧ Up W w' := by
  obtain ⟨a, b, c, d⟩ := laE_ok h
  obtain ⟨w0, w1, w2⟩ := flB_bd c
  have hn := (chE_ok a).2.1
  have t := p_bed hz (lv_bd d b hn 0 f0 w0) (lv_bd d b hn 1 f1 w1) (lv_bd d b hn 2 f2 w2) W
  have e : ∀ v, laV ps gs f0 f1 f2 v = v := fun v => by unfold laV; rw [if_pos h]
  simp only [e]
  exact t
set_option maxRecDepth 100000 in
set_option maxHeartbeats 16000000 in
theorem p_Height (A : Option Addr) (ps : List Gs.Sup) (cap : Nat) (B : Option Addr) (gs : List Int) (capg : Nat) (f0 f1 f2 X Y : Int) (hn : ps.length ≤ 9223372036854775807) (hng : gs.length ≤ 9223372036854775807) (w : World) (h : Sups w A ps) (hg : Ints w B gs) :
    Calls Try.prog 33 #[.slice A ps.length cap, .agg #[.int .i64 f0, .int .i64 f1, .int .i64 f2], .slice B gs.length capg, pt X Y] w fun e w' => e = .returned (.tuple #[.int .i64 (htV ps gs f0 f1 f2 X Y), .int .i64 (htE ps gs f0 f1 f2 X Y)]) ∧ Up w w' := by
  have hL := hide (fun (W : World) (hW : Up w W) => p_laid A ps cap B gs capg f0 f1 f2 hn hng W (sups_up h hW) (ints_up hg hW))
  have hQ := hide (fun W => p_checkPoint X Y W)
  have hH := hide (fun a b W => p_bedL (ps := ps) (gs := gs) (f0 := f0) (f1 := f1) (f2 := f2) (X := X) (Y := Y) a b W)
  have hcs := ht_cases ps gs f0 f1 f2 X Y
  clear h hg
  unfold hoE at hH
  generalize laV ps gs f0 f1 f2 (Gs.cN 0 ps) = k0 at *
  generalize laV ps gs f0 f1 f2 (Gs.cX 0 ps) = k1 at *
  generalize laV ps gs f0 f1 f2 (Gs.cY 0 ps) = k2 at *
  generalize laV ps gs f0 f1 f2 (Gs.cN 1 ps) = k3 at *
  generalize laV ps gs f0 f1 f2 (Gs.cX 1 ps) = k4 at *
  generalize laV ps gs f0 f1 f2 (Gs.cY 1 ps) = k5 at *
  generalize laV ps gs f0 f1 f2 (Gs.cN 2 ps) = k6 at *
  generalize laV ps gs f0 f1 f2 (Gs.cX 2 ps) = k7 at *
  generalize laV ps gs f0 f1 f2 (Gs.cY 2 ps) = k8 at *
  generalize laV ps gs f0 f1 f2 (f0 + gk 0 ps gs ps.length) = k9 at *
  generalize laV ps gs f0 f1 f2 (f1 + gk 1 ps gs ps.length) = k10 at *
  generalize laV ps gs f0 f1 f2 (f2 + gk 2 ps gs ps.length) = k11 at *
  obtain ⟨n, hN⟩ : ∃ n, ps.length = n := ⟨_, rfl⟩
  obtain ⟨m, hM⟩ : ∃ m, gs.length = m := ⟨_, rfl⟩
  rw [hN] at hL hn ⊢
  rw [hM] at hL hng ⊢
  clear hN hM
  generalize htE ps gs f0 f1 f2 X Y = E at *
  generalize htV ps gs f0 f1 f2 X Y = V at *
  generalize laE ps gs f0 f1 f2 = F at *
  generalize heV ps gs f0 f1 f2 X Y = H at *
  generalize hoB ps X Y = B0 at *
  generalize ptE X Y = Q at *
  generalize atE ps X Y = T at *
  rcases hcs with ⟨c1, rfl, rfl⟩ | ⟨rfl, rfl, rfl, rfl⟩ | ⟨rfl, rfl, rfl, hcs⟩
  · have c2 : (E == 0) = false := by simp; exact c1
    clear hQ hH
    go_enter Try.func33, Try.ntmps33
    go_wp2_with (go_at_call 73; (with_reducible refine (unhide hL _ (by repeat' (first | (with_reducible exact up_refl _) | (with_reducible assumption) | (with_reducible refine up_alloc ?_ _) | (with_reducible refine up_drewN ?_ _) | (with_reducible refine up_drew ?_) | (with_reducible refine up_set ?_ (by first | (simp; done) | (simp; omega) | omega) _) | (refine up_trans ?_ (by with_reducible assumption))))).mono ?_); rintro e w1 ⟨rfl, hb1⟩; have k1_0 : w1.cell? ⟨w.heap.size + 1, 0, none⟩ = some (.int .i64 X) := up_cell hb1 (by first | (with_reducible assumption) | (refine alloc_cell _ ?_; with_reducible assumption) | go_cell); have k1_1 : w1.cell? ⟨w.heap.size + 1, 1, none⟩ = some (.int .i64 Y) := up_cell hb1 (by first | (with_reducible assumption) | (refine alloc_cell _ ?_; with_reducible assumption) | go_cell); have r0 := fun o => alloc_cell o k1_0; have r1 := fun o => alloc_cell o k1_1)
    go_ret2
    exact ⟨rfl, (by repeat' (first | (with_reducible exact up_refl _) | (with_reducible assumption) | (with_reducible refine up_alloc ?_ _) | (with_reducible refine up_drewN ?_ _) | (with_reducible refine up_drew ?_) | (with_reducible refine up_set ?_ (by first | (simp; done) | (simp; omega) | omega) _) | (refine up_trans ?_ (by with_reducible assumption))))⟩
  · clear hH
    go_enter Try.func33, Try.ntmps33
    go_wp2_with (first | (go_at_call 73; (with_reducible refine (unhide hL _ (by repeat' (first | (with_reducible exact up_refl _) | (with_reducible assumption) | (with_reducible refine up_alloc ?_ _) | (with_reducible refine up_drewN ?_ _) | (with_reducible refine up_drew ?_) | (with_reducible refine up_set ?_ (by first | (simp; done) | (simp; omega) | omega) _) | (refine up_trans ?_ (by with_reducible assumption))))).mono ?_); rintro e w1 ⟨rfl, hb1⟩; have k1_0 : w1.cell? ⟨w.heap.size + 1, 0, none⟩ = some (.int .i64 X) := up_cell hb1 (by first | (with_reducible assumption) | (refine alloc_cell _ ?_; with_reducible assumption) | go_cell); have k1_1 : w1.cell? ⟨w.heap.size + 1, 1, none⟩ = some (.int .i64 Y) := up_cell hb1 (by first | (with_reducible assumption) | (refine alloc_cell _ ?_; with_reducible assumption) | go_cell); have r0 := fun o => alloc_cell o k1_0; have r1 := fun o => alloc_cell o k1_1) | (go_at_call 74; (with_reducible refine (unhide hQ _).mono ?_); rintro e w2 ⟨rfl, hb2⟩))
    go_ret2
    exact ⟨rfl, (by repeat' (first | (with_reducible exact up_refl _) | (with_reducible assumption) | (with_reducible refine up_alloc ?_ _) | (with_reducible refine up_drewN ?_ _) | (with_reducible refine up_drew ?_) | (with_reducible refine up_set ?_ (by first | (simp; done) | (simp; omega) | omega) _) | (refine up_trans ?_ (by with_reducible assumption))))⟩
  · have hH2 := hide (unhide hH rfl rfl)
    clear hH
    rcases hcs with ⟨rfl, rfl, rfl⟩ | ⟨rfl, rfl, rfl⟩
    · simp only [if_true] at hH2
      go_enter Try.func33, Try.ntmps33
      go_upto_region 4 with (go_at_call 73; (with_reducible refine (unhide hL _ (by repeat' (first | (with_reducible exact up_refl _) | (with_reducible assumption) | (with_reducible refine up_alloc ?_ _) | (with_reducible refine up_drewN ?_ _) | (with_reducible refine up_drew ?_) | (with_reducible refine up_set ?_ (by first | (simp; done) | (simp; omega) | omega) _) | (refine up_trans ?_ (by with_reducible assumption))))).mono ?_); rintro e w1 ⟨rfl, hb1⟩; have k1_0 : w1.cell? ⟨w.heap.size + 1, 0, none⟩ = some (.int .i64 X) := up_cell hb1 (by first | (with_reducible assumption) | (refine alloc_cell _ ?_; with_reducible assumption) | go_cell); have k1_1 : w1.cell? ⟨w.heap.size + 1, 1, none⟩ = some (.int .i64 Y) := up_cell hb1 (by first | (with_reducible assumption) | (refine alloc_cell _ ?_; with_reducible assumption) | go_cell); have r0 := fun o => alloc_cell o k1_0; have r1 := fun o => alloc_cell o k1_1)
      have BB := bx_new w1 [.int .i64 k0, .int .i64 k1, .int .i64 k2, .int .i64 k3, .int .i64 k4, .int .i64 k5, .int .i64 k6, .int .i64 k7, .int .i64 k8, .int .i64 k9, .int .i64 k10, .int .i64 k11] 100
      have PP : Bx (w1.alloc (.cells #[.int .i64 k0, .int .i64 k1, .int .i64 k2, .int .i64 k3, .int .i64 k4, .int .i64 k5, .int .i64 k6, .int .i64 k7, .int .i64 k8, .int .i64 k9, .int .i64 k10, .int .i64 k11] 100)) (w.heap.size + 1) [.int .i64 X, .int .i64 Y] := by
        have t := bx_new (w.alloc (.cells #[.int .i64 f0, .int .i64 f1, .int .i64 f2] 30)) [.int .i64 X, .int .i64 Y] 29
        rw [sz1] at t
        exact bx_alloc (bx_up t hb1) _
      go_upto_region 7 with (go_at_call 74; (with_reducible refine (unhide hQ _).mono ?_); rintro e w2 ⟨rfl, hb2⟩)
      have B2 := bx_up BB hb2
      obtain ⟨x0, x1⟩ := bx2 (bx_up PP hb2)
      have y0 := (B2 0 _ rfl).1
      have y1 := (B2 1 _ rfl).1
      have y2 := (B2 2 _ rfl).1
      have y3 := (B2 3 _ rfl).1
      have y4 := (B2 4 _ rfl).1
      have y5 := (B2 5 _ rfl).1
      have y6 := (B2 6 _ rfl).1
      have y7 := (B2 7 _ rfl).1
      have y8 := (B2 8 _ rfl).1
      have y9 := (B2 9 _ rfl).1
      have y10 := (B2 10 _ rfl).1
      have y11 := (B2 11 _ rfl).1
      go_wp2_with (go_at_call 75; (with_reducible refine (unhide hH2 _).mono ?_); rintro e w3 ⟨rfl, hb3⟩)
      go_ret2
      exact ⟨rfl, (by repeat' (first | (with_reducible exact up_refl _) | (with_reducible assumption) | (with_reducible refine up_alloc ?_ _) | (with_reducible refine up_drewN ?_ _) | (with_reducible refine up_drew ?_) | (with_reducible refine up_set ?_ (by first | (simp; done) | (simp; omega) | omega) _) | (refine up_trans ?_ (by with_reducible assumption))))⟩
    · simp only [Bool.false_eq_true, if_false] at hH2
      go_enter Try.func33, Try.ntmps33
      go_upto_region 4 with (go_at_call 73; (with_reducible refine (unhide hL _ (by repeat' (first | (with_reducible exact up_refl _) | (with_reducible assumption) | (with_reducible refine up_alloc ?_ _) | (with_reducible refine up_drewN ?_ _) | (with_reducible refine up_drew ?_) | (with_reducible refine up_set ?_ (by first | (simp; done) | (simp; omega) | omega) _) | (refine up_trans ?_ (by with_reducible assumption))))).mono ?_); rintro e w1 ⟨rfl, hb1⟩; have k1_0 : w1.cell? ⟨w.heap.size + 1, 0, none⟩ = some (.int .i64 X) := up_cell hb1 (by first | (with_reducible assumption) | (refine alloc_cell _ ?_; with_reducible assumption) | go_cell); have k1_1 : w1.cell? ⟨w.heap.size + 1, 1, none⟩ = some (.int .i64 Y) := up_cell hb1 (by first | (with_reducible assumption) | (refine alloc_cell _ ?_; with_reducible assumption) | go_cell); have r0 := fun o => alloc_cell o k1_0; have r1 := fun o => alloc_cell o k1_1)
      have BB := bx_new w1 [.int .i64 k0, .int .i64 k1, .int .i64 k2, .int .i64 k3, .int .i64 k4, .int .i64 k5, .int .i64 k6, .int .i64 k7, .int .i64 k8, .int .i64 k9, .int .i64 k10, .int .i64 k11] 100
      have PP : Bx (w1.alloc (.cells #[.int .i64 k0, .int .i64 k1, .int .i64 k2, .int .i64 k3, .int .i64 k4, .int .i64 k5, .int .i64 k6, .int .i64 k7, .int .i64 k8, .int .i64 k9, .int .i64 k10, .int .i64 k11] 100)) (w.heap.size + 1) [.int .i64 X, .int .i64 Y] := by
        have t := bx_new (w.alloc (.cells #[.int .i64 f0, .int .i64 f1, .int .i64 f2] 30)) [.int .i64 X, .int .i64 Y] 29
        rw [sz1] at t
        exact bx_alloc (bx_up t hb1) _
      go_upto_region 7 with (go_at_call 74; (with_reducible refine (unhide hQ _).mono ?_); rintro e w2 ⟨rfl, hb2⟩)
      have B2 := bx_up BB hb2
      obtain ⟨x0, x1⟩ := bx2 (bx_up PP hb2)
      have y0 := (B2 0 _ rfl).1
      have y1 := (B2 1 _ rfl).1
      have y2 := (B2 2 _ rfl).1
      have y3 := (B2 3 _ rfl).1
      have y4 := (B2 4 _ rfl).1
      have y5 := (B2 5 _ rfl).1
      have y6 := (B2 6 _ rfl).1
      have y7 := (B2 7 _ rfl).1
      have y8 := (B2 8 _ rfl).1
      have y9 := (B2 9 _ rfl).1
      have y10 := (B2 10 _ rfl).1
      have y11 := (B2 11 _ rfl).1
      go_wp2_with (go_at_call 75; (with_reducible refine (unhide hH2 _).mono ?_); rintro e w3 ⟨rfl, hb3⟩)
      go_ret2
      exact ⟨rfl, (by repeat' (first | (with_reducible exact up_refl _) | (with_reducible assumption) | (with_reducible refine up_alloc ?_ _) | (with_reducible refine up_drewN ?_ _) | (with_reducible refine up_drew ?_) | (with_reducible refine up_set ?_ (by first | (simp; done) | (simp; omega) | omega) _) | (refine up_trans ?_ (by with_reducible assumption))))⟩
set_option maxRecDepth 100000 in
set_option maxHeartbeats 16000000 in
theorem r_Height (A : Option Addr) (ps : List Gs.Sup) (cap : Nat) (B : Option Addr) (gs : List Int) (capg : Nat) (f0 f1 f2 X Y : Int) (hn : ps.length ≤ 9223372036854775807) (hng : gs.length ≤ 9223372036854775807) (w : World) (h : Sups w A ps) (hg : Ints w B gs) :
    Calls Try.prog 34 #[.slice A ps.length cap, .agg #[.int .i64 f0, .int .i64 f1, .int .i64 f2], .slice B gs.length capg, pt X Y] w fun e w' => e = .returned (.tuple #[.int .i64 (htV ps gs f0 f1 f2 X Y), .int .i64 (htE ps gs f0 f1 f2 X Y)]) ∧ Up w w' := by
  have hL := hide (fun (W : World) (hW : Up w W) => r_ground A ps cap B gs capg f0 f1 f2 hn hng W (sups_up h hW) (ints_up hg hW))
  have hQ := hide (fun W => r_point X Y W)
  have hB := hide (fun (a : atE ps X Y = 0) (W : World) (hW : Up w W) => r_beyond A ps cap X Y a W (sups_up h hW))
  have hH := hide (fun (l : laE ps gs f0 f1 f2 = 0) (a : atE ps X Y = 0) (o : hoB ps X Y = false) (W : World) (hW : Up w W) => r_height A ps cap B gs capg f0 f1 f2 X Y a o (laE_ok l).2.2.1 (laE_ok l).2.2.2 (laE_ok l).2.1 W (sups_up h hW) (ints_up hg hW))
  have hcs := ht_cases ps gs f0 f1 f2 X Y
  clear h hg
  obtain ⟨n, hN⟩ : ∃ n, ps.length = n := ⟨_, rfl⟩
  obtain ⟨m, hM⟩ : ∃ m, gs.length = m := ⟨_, rfl⟩
  rw [hN] at hL hB hH hn ⊢
  rw [hM] at hL hH hng ⊢
  clear hN hM
  generalize htE ps gs f0 f1 f2 X Y = E at *
  generalize htV ps gs f0 f1 f2 X Y = V at *
  generalize laE ps gs f0 f1 f2 = F at *
  generalize heV ps gs f0 f1 f2 X Y = H at *
  generalize hoB ps X Y = B0 at *
  generalize ptE X Y = Q at *
  generalize atE ps X Y = T at *
  rcases hcs with ⟨c1, rfl, rfl⟩ | ⟨rfl, rfl, rfl, rfl⟩ | ⟨rfl, rfl, rfl, hcs⟩
  · have c2 : (E == 0) = false := by simp; exact c1
    clear hQ hH hB
    go_enter Try.func34, Try.ntmps34
    go_wp2_with (first | (go_at_call 76; (with_reducible refine (unhide hL _ (by repeat' (first | (with_reducible exact up_refl _) | (with_reducible assumption) | (with_reducible refine up_alloc ?_ _) | (with_reducible refine up_drewN ?_ _) | (with_reducible refine up_drew ?_) | (with_reducible refine up_set ?_ (by first | (simp; done) | (simp; omega) | omega) _) | (refine up_trans ?_ (by with_reducible assumption))))).mono ?_); rintro e w1 ⟨rfl, hb1⟩; have k0_0 : w1.cell? ⟨w.heap.size, 0, none⟩ = some (.int .i64 f0) := up_cell hb1 (by first | (with_reducible assumption) | (refine alloc_cell _ ?_; with_reducible assumption) | go_cell); have k0_1 : w1.cell? ⟨w.heap.size, 1, none⟩ = some (.int .i64 f1) := up_cell hb1 (by first | (with_reducible assumption) | (refine alloc_cell _ ?_; with_reducible assumption) | go_cell); have k0_2 : w1.cell? ⟨w.heap.size, 2, none⟩ = some (.int .i64 f2) := up_cell hb1 (by first | (with_reducible assumption) | (refine alloc_cell _ ?_; with_reducible assumption) | go_cell); have k1_0 : w1.cell? ⟨w.heap.size + 1, 0, none⟩ = some (.int .i64 X) := up_cell hb1 (by first | (with_reducible assumption) | (refine alloc_cell _ ?_; with_reducible assumption) | go_cell); have k1_1 : w1.cell? ⟨w.heap.size + 1, 1, none⟩ = some (.int .i64 Y) := up_cell hb1 (by first | (with_reducible assumption) | (refine alloc_cell _ ?_; with_reducible assumption) | go_cell)) | (go_at_call 76; (with_reducible refine (unhide hL _ (by repeat' (first | (with_reducible exact up_refl _) | (with_reducible assumption) | (with_reducible refine up_alloc ?_ _) | (with_reducible refine up_drewN ?_ _) | (with_reducible refine up_drew ?_) | (with_reducible refine up_set ?_ (by first | (simp; done) | (simp; omega) | omega) _) | (refine up_trans ?_ (by with_reducible assumption))))).mono ?_); rintro e w2 ⟨rfl, hb2⟩))
    go_ret2
    exact ⟨rfl, (by repeat' (first | (with_reducible exact up_refl _) | (with_reducible assumption) | (with_reducible refine up_alloc ?_ _) | (with_reducible refine up_drewN ?_ _) | (with_reducible refine up_drew ?_) | (with_reducible refine up_set ?_ (by first | (simp; done) | (simp; omega) | omega) _) | (refine up_trans ?_ (by with_reducible assumption))))⟩
  · clear hH hB
    go_enter Try.func34, Try.ntmps34
    go_wp2_with (first | (go_at_call 76; (with_reducible refine (unhide hL _ (by repeat' (first | (with_reducible exact up_refl _) | (with_reducible assumption) | (with_reducible refine up_alloc ?_ _) | (with_reducible refine up_drewN ?_ _) | (with_reducible refine up_drew ?_) | (with_reducible refine up_set ?_ (by first | (simp; done) | (simp; omega) | omega) _) | (refine up_trans ?_ (by with_reducible assumption))))).mono ?_); rintro e w1 ⟨rfl, hb1⟩; have k0_0 : w1.cell? ⟨w.heap.size, 0, none⟩ = some (.int .i64 f0) := up_cell hb1 (by first | (with_reducible assumption) | (refine alloc_cell _ ?_; with_reducible assumption) | go_cell); have k0_1 : w1.cell? ⟨w.heap.size, 1, none⟩ = some (.int .i64 f1) := up_cell hb1 (by first | (with_reducible assumption) | (refine alloc_cell _ ?_; with_reducible assumption) | go_cell); have k0_2 : w1.cell? ⟨w.heap.size, 2, none⟩ = some (.int .i64 f2) := up_cell hb1 (by first | (with_reducible assumption) | (refine alloc_cell _ ?_; with_reducible assumption) | go_cell); have k1_0 : w1.cell? ⟨w.heap.size + 1, 0, none⟩ = some (.int .i64 X) := up_cell hb1 (by first | (with_reducible assumption) | (refine alloc_cell _ ?_; with_reducible assumption) | go_cell); have k1_1 : w1.cell? ⟨w.heap.size + 1, 1, none⟩ = some (.int .i64 Y) := up_cell hb1 (by first | (with_reducible assumption) | (refine alloc_cell _ ?_; with_reducible assumption) | go_cell)) | (go_at_call 54; (with_reducible refine (unhide hQ _).mono ?_); rintro e w2 ⟨rfl, hb2⟩; have z0 := up_cell hb2 k0_0; have z1 := up_cell hb2 k0_1; have z2 := up_cell hb2 k0_2; have z3 := up_cell hb2 k1_0; have z4 := up_cell hb2 k1_1))
    go_ret2
    exact ⟨rfl, (by repeat' (first | (with_reducible exact up_refl _) | (with_reducible assumption) | (with_reducible refine up_alloc ?_ _) | (with_reducible refine up_drewN ?_ _) | (with_reducible refine up_drew ?_) | (with_reducible refine up_set ?_ (by first | (simp; done) | (simp; omega) | omega) _) | (refine up_trans ?_ (by with_reducible assumption))))⟩
  · have hB2 := hide (unhide hB rfl)
    have hH2 := hide (unhide hH rfl rfl)
    clear hH hB
    rcases hcs with ⟨rfl, rfl, rfl⟩ | ⟨rfl, rfl, rfl⟩
    · clear hH2
      go_enter Try.func34, Try.ntmps34
      go_wp2_with (first | (go_at_call 76; (with_reducible refine (unhide hL _ (by repeat' (first | (with_reducible exact up_refl _) | (with_reducible assumption) | (with_reducible refine up_alloc ?_ _) | (with_reducible refine up_drewN ?_ _) | (with_reducible refine up_drew ?_) | (with_reducible refine up_set ?_ (by first | (simp; done) | (simp; omega) | omega) _) | (refine up_trans ?_ (by with_reducible assumption))))).mono ?_); rintro e w1 ⟨rfl, hb1⟩; have k0_0 : w1.cell? ⟨w.heap.size, 0, none⟩ = some (.int .i64 f0) := up_cell hb1 (by first | (with_reducible assumption) | (refine alloc_cell _ ?_; with_reducible assumption) | go_cell); have k0_1 : w1.cell? ⟨w.heap.size, 1, none⟩ = some (.int .i64 f1) := up_cell hb1 (by first | (with_reducible assumption) | (refine alloc_cell _ ?_; with_reducible assumption) | go_cell); have k0_2 : w1.cell? ⟨w.heap.size, 2, none⟩ = some (.int .i64 f2) := up_cell hb1 (by first | (with_reducible assumption) | (refine alloc_cell _ ?_; with_reducible assumption) | go_cell); have k1_0 : w1.cell? ⟨w.heap.size + 1, 0, none⟩ = some (.int .i64 X) := up_cell hb1 (by first | (with_reducible assumption) | (refine alloc_cell _ ?_; with_reducible assumption) | go_cell); have k1_1 : w1.cell? ⟨w.heap.size + 1, 1, none⟩ = some (.int .i64 Y) := up_cell hb1 (by first | (with_reducible assumption) | (refine alloc_cell _ ?_; with_reducible assumption) | go_cell)) | (go_at_call 54; (with_reducible refine (unhide hQ _).mono ?_); rintro e w2 ⟨rfl, hb2⟩; have z0 := up_cell hb2 k0_0; have z1 := up_cell hb2 k0_1; have z2 := up_cell hb2 k0_2; have z3 := up_cell hb2 k1_0; have z4 := up_cell hb2 k1_1) | (go_at_call 77; (with_reducible refine (unhide hB2 _ (by repeat' (first | (with_reducible exact up_refl _) | (with_reducible assumption) | (with_reducible refine up_alloc ?_ _) | (with_reducible refine up_drewN ?_ _) | (with_reducible refine up_drew ?_) | (with_reducible refine up_set ?_ (by first | (simp; done) | (simp; omega) | omega) _) | (refine up_trans ?_ (by with_reducible assumption))))).mono ?_); rintro e w3 ⟨rfl, hb3⟩; have v0 := up_cell hb3 z0; have v1 := up_cell hb3 z1; have v2 := up_cell hb3 z2; have v3 := up_cell hb3 z3; have v4 := up_cell hb3 z4))
      go_ret2
      exact ⟨rfl, (by repeat' (first | (with_reducible exact up_refl _) | (with_reducible assumption) | (with_reducible refine up_alloc ?_ _) | (with_reducible refine up_drewN ?_ _) | (with_reducible refine up_drew ?_) | (with_reducible refine up_set ?_ (by first | (simp; done) | (simp; omega) | omega) _) | (refine up_trans ?_ (by with_reducible assumption))))⟩
    · have hH3 := hide (unhide hH2 rfl)
      clear hH2
      go_enter Try.func34, Try.ntmps34
      go_wp2_with (first | (go_at_call 76; (with_reducible refine (unhide hL _ (by repeat' (first | (with_reducible exact up_refl _) | (with_reducible assumption) | (with_reducible refine up_alloc ?_ _) | (with_reducible refine up_drewN ?_ _) | (with_reducible refine up_drew ?_) | (with_reducible refine up_set ?_ (by first | (simp; done) | (simp; omega) | omega) _) | (refine up_trans ?_ (by with_reducible assumption))))).mono ?_); rintro e w1 ⟨rfl, hb1⟩; have k0_0 : w1.cell? ⟨w.heap.size, 0, none⟩ = some (.int .i64 f0) := up_cell hb1 (by first | (with_reducible assumption) | (refine alloc_cell _ ?_; with_reducible assumption) | go_cell); have k0_1 : w1.cell? ⟨w.heap.size, 1, none⟩ = some (.int .i64 f1) := up_cell hb1 (by first | (with_reducible assumption) | (refine alloc_cell _ ?_; with_reducible assumption) | go_cell); have k0_2 : w1.cell? ⟨w.heap.size, 2, none⟩ = some (.int .i64 f2) := up_cell hb1 (by first | (with_reducible assumption) | (refine alloc_cell _ ?_; with_reducible assumption) | go_cell); have k1_0 : w1.cell? ⟨w.heap.size + 1, 0, none⟩ = some (.int .i64 X) := up_cell hb1 (by first | (with_reducible assumption) | (refine alloc_cell _ ?_; with_reducible assumption) | go_cell); have k1_1 : w1.cell? ⟨w.heap.size + 1, 1, none⟩ = some (.int .i64 Y) := up_cell hb1 (by first | (with_reducible assumption) | (refine alloc_cell _ ?_; with_reducible assumption) | go_cell)) | (go_at_call 54; (with_reducible refine (unhide hQ _).mono ?_); rintro e w2 ⟨rfl, hb2⟩; have z0 := up_cell hb2 k0_0; have z1 := up_cell hb2 k0_1; have z2 := up_cell hb2 k0_2; have z3 := up_cell hb2 k1_0; have z4 := up_cell hb2 k1_1) | (go_at_call 77; (with_reducible refine (unhide hB2 _ (by repeat' (first | (with_reducible exact up_refl _) | (with_reducible assumption) | (with_reducible refine up_alloc ?_ _) | (with_reducible refine up_drewN ?_ _) | (with_reducible refine up_drew ?_) | (with_reducible refine up_set ?_ (by first | (simp; done) | (simp; omega) | omega) _) | (refine up_trans ?_ (by with_reducible assumption))))).mono ?_); rintro e w3 ⟨rfl, hb3⟩; have v0 := up_cell hb3 z0; have v1 := up_cell hb3 z1; have v2 := up_cell hb3 z2; have v3 := up_cell hb3 z3; have v4 := up_cell hb3 z4) | (go_at_call 78; (with_reducible refine (unhide hH3 _ (by repeat' (first | (with_reducible exact up_refl _) | (with_reducible assumption) | (with_reducible refine up_alloc ?_ _) | (with_reducible refine up_drewN ?_ _) | (with_reducible refine up_drew ?_) | (with_reducible refine up_set ?_ (by first | (simp; done) | (simp; omega) | omega) _) | (refine up_trans ?_ (by with_reducible assumption))))).mono ?_); rintro e w4 ⟨rfl, hb4⟩))
      go_ret2
      exact ⟨rfl, (by repeat' (first | (with_reducible exact up_refl _) | (with_reducible assumption) | (with_reducible refine up_alloc ?_ _) | (with_reducible refine up_drewN ?_ _) | (with_reducible refine up_drew ?_) | (with_reducible refine up_set ?_ (by first | (simp; done) | (simp; omega) | omega) _) | (refine up_trans ?_ (by with_reducible assumption))))⟩
end Go.Proofs.Ytgjcpgmnflpdkaa
