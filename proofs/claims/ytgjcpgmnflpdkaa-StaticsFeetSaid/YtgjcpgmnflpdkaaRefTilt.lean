/- Tilt: the document's own answer. -/
import Derived.Test.YtgjcpgmnflpdkaaTiltA
import Derived.Test.YtgjcpgmnflpdkaaRefOut
namespace Go.Proofs.Ytgjcpgmnflpdkaa
open Go.RowKit Go.Proofs.Gn
theorem foV_t {c0 c1 c2 sx sy ax ay v : Int} (h : lnB c0 c1 c2 sx sy ax ay = true) : foV c0 c1 c2 sx sy ax ay v = v := by unfold foV; rw [if_pos h]
theorem lnE_t {c0 c1 c2 sx sy ax ay : Int} (h : lnB c0 c1 c2 sx sy ax ay = true) : lnE c0 c1 c2 sx sy ax ay = 0 := by unfold lnE; rw [if_pos h]
theorem lnE_f {c0 c1 c2 sx sy : Int} (h : slB sx sy 1000 = false) : lnE c0 c1 c2 sx sy 0 0 = 3 := by unfold lnE lnB; rw [h]; simp
set_option maxRecDepth 100000 in
set_option maxHeartbeats 40000000 in
theorem r_TiltA (A : Option Addr) (ps : List Gs.Sup) (cap : Nat) (h0 h1 h2 x y : Int) (K : Nat) (hK : Fst (tlS ps h0 h1 h2 x y) K) (hn : ps.length ≤ 9223372036854775807) (w : World) (h : Sups w A ps) :
    Calls Try.prog 32 #[.slice A ps.length cap, .agg #[.int .i64 h0, .int .i64 h1, .int .i64 h2], pt x y] w fun e w' => e = .returned (.tuple #[.int .i64 (tlV ps h0 h1 h2 x y K), .int .i64 (tlE ps h0 h1 h2 x y K)]) ∧ Up w w' := by
  have hC := hide (fun (W : World) (hW : Up w W) => r_Check A ps cap W (sups_up h hW) hn)
  have hE := hide (fun W => r_centre h0 h1 h2 W)
  have hX := hide (fun W => r_within x (-10) 10 W)
  have hY := hide (fun W => r_within y (-10) 10 W)
  have hF := hide (fun (kx ky : Int) (W : World) => r_Foot h0 h1 h2 kx ky 0 0 W)
  have hT := hide (fun (X Y : Int) (a : atE ps X Y = 0) (W : World) (hW : Up w W) => r_tips A ps cap X Y a W (sups_up h hW))
  have hAt := hide (fun (kx ky : Int) (a : chE ps = 0) (b : ceB h0 h1 h2 = true) (c : slB kx ky 1000 = true) => tl_at a b c)
  have hten := hide (fun (a : win x (-10) 10 = true) (b : win y (-10) 10 = true) => (⟨(win_iff _ _ _).1 a, (win_iff _ _ _).1 b⟩ : (-10 ≤ x ∧ x ≤ 10) ∧ -10 ≤ y ∧ y ≤ 10))
  have hcs := tl_cases ps h0 h1 h2 x y K
  have hK1 := hK.1
  have HK := hide hK
  clear h hn hK
  unfold ceE at hE
  obtain ⟨n, hN⟩ : ∃ n, ps.length = n := ⟨_, rfl⟩
  rw [hN] at hC hT ⊢
  clear hN
  generalize tlE ps h0 h1 h2 x y K = E at *
  generalize tlV ps h0 h1 h2 x y K = V at *
  obtain ⟨C, hCe⟩ : ∃ C, chE ps = C := ⟨_, rfl⟩
  obtain ⟨B1, hB1⟩ : ∃ b, ceB h0 h1 h2 = b := ⟨_, rfl⟩
  rw [hCe] at hC hcs hAt
  rw [hB1] at hE hcs hAt
  clear hCe hB1
  unfold slB at hcs
  generalize win x (-10) 10 = B2 at *
  generalize win y (-10) 10 = B3 at *
  rcases hcs with ⟨c1, rfl, rfl⟩ | ⟨rfl, rfl, rfl, rfl⟩ | ⟨rfl, rfl, hb, rfl, rfl⟩ | ⟨rfl, rfl, hb, ⟨rfl, rfl⟩, rfl, rfl⟩ | ⟨rfl, rfl, hb, cz, ck⟩
  · clear hE hX hY hF hT
    have c2 : (E == 0) = false := by simp; exact c1
    go_enter Try.func32, Try.ntmps32
    go_wp2_with (go_at_call 26; (with_reducible refine (unhide hC _ (by repeat' (first | (with_reducible exact up_refl _) | (with_reducible assumption) | (with_reducible refine up_alloc ?_ _) | (with_reducible refine up_drewN ?_ _) | (with_reducible refine up_drew ?_) | (with_reducible refine up_set ?_ (by first | (simp; done) | (simp; omega) | omega) _) | (refine up_trans ?_ (by with_reducible assumption))))).mono ?_); rintro e w1 ⟨rfl, hb1⟩; have k0_0 : w1.cell? ⟨w.heap.size, 0, none⟩ = some (.int .i64 h0) := up_cell hb1 (by first | (with_reducible assumption) | (refine alloc_cell _ ?_; with_reducible assumption) | go_cell); have k0_1 : w1.cell? ⟨w.heap.size, 1, none⟩ = some (.int .i64 h1) := up_cell hb1 (by first | (with_reducible assumption) | (refine alloc_cell _ ?_; with_reducible assumption) | go_cell); have k0_2 : w1.cell? ⟨w.heap.size, 2, none⟩ = some (.int .i64 h2) := up_cell hb1 (by first | (with_reducible assumption) | (refine alloc_cell _ ?_; with_reducible assumption) | go_cell); have k1_0 : w1.cell? ⟨w.heap.size + 1, 0, none⟩ = some (.int .i64 x) := up_cell hb1 (by first | (with_reducible assumption) | (refine alloc_cell _ ?_; with_reducible assumption) | go_cell); have k1_1 : w1.cell? ⟨w.heap.size + 1, 1, none⟩ = some (.int .i64 y) := up_cell hb1 (by first | (with_reducible assumption) | (refine alloc_cell _ ?_; with_reducible assumption) | go_cell))
    go_ret2
    exact ⟨rfl, (by repeat' (first | (with_reducible exact up_refl _) | (with_reducible assumption) | (with_reducible refine up_alloc ?_ _) | (with_reducible refine up_drewN ?_ _) | (with_reducible refine up_drew ?_) | (with_reducible refine up_set ?_ (by first | (simp; done) | (simp; omega) | omega) _) | (refine up_trans ?_ (by with_reducible assumption))))⟩
  · clear hX hY hF hT
    simp only [Bool.false_eq_true, if_false] at hE
    go_enter Try.func32, Try.ntmps32
    go_wp2_with (first | (go_at_call 26; (with_reducible refine (unhide hC _ (by repeat' (first | (with_reducible exact up_refl _) | (with_reducible assumption) | (with_reducible refine up_alloc ?_ _) | (with_reducible refine up_drewN ?_ _) | (with_reducible refine up_drew ?_) | (with_reducible refine up_set ?_ (by first | (simp; done) | (simp; omega) | omega) _) | (refine up_trans ?_ (by with_reducible assumption))))).mono ?_); rintro e w1 ⟨rfl, hb1⟩; have k0_0 : w1.cell? ⟨w.heap.size, 0, none⟩ = some (.int .i64 h0) := up_cell hb1 (by first | (with_reducible assumption) | (refine alloc_cell _ ?_; with_reducible assumption) | go_cell); have k0_1 : w1.cell? ⟨w.heap.size, 1, none⟩ = some (.int .i64 h1) := up_cell hb1 (by first | (with_reducible assumption) | (refine alloc_cell _ ?_; with_reducible assumption) | go_cell); have k0_2 : w1.cell? ⟨w.heap.size, 2, none⟩ = some (.int .i64 h2) := up_cell hb1 (by first | (with_reducible assumption) | (refine alloc_cell _ ?_; with_reducible assumption) | go_cell); have k1_0 : w1.cell? ⟨w.heap.size + 1, 0, none⟩ = some (.int .i64 x) := up_cell hb1 (by first | (with_reducible assumption) | (refine alloc_cell _ ?_; with_reducible assumption) | go_cell); have k1_1 : w1.cell? ⟨w.heap.size + 1, 1, none⟩ = some (.int .i64 y) := up_cell hb1 (by first | (with_reducible assumption) | (refine alloc_cell _ ?_; with_reducible assumption) | go_cell)) | (go_at_call 64; (with_reducible refine (unhide hE _).mono ?_); rintro e w2 ⟨rfl, hb2⟩; have z0 := up_cell hb2 k0_0; have z1 := up_cell hb2 k0_1; have z2 := up_cell hb2 k0_2; have z3 := up_cell hb2 k1_0; have z4 := up_cell hb2 k1_1))
    go_ret2
    exact ⟨rfl, (by repeat' (first | (with_reducible exact up_refl _) | (with_reducible assumption) | (with_reducible refine up_alloc ?_ _) | (with_reducible refine up_drewN ?_ _) | (with_reducible refine up_drew ?_) | (with_reducible refine up_set ?_ (by first | (simp; done) | (simp; omega) | omega) _) | (refine up_trans ?_ (by with_reducible assumption))))⟩
  · clear hF hT
    simp only [if_true] at hE
    cases B2
    · clear hY
      go_enter Try.func32, Try.ntmps32
      go_wp2_with (first | (go_at_call 26; (with_reducible refine (unhide hC _ (by repeat' (first | (with_reducible exact up_refl _) | (with_reducible assumption) | (with_reducible refine up_alloc ?_ _) | (with_reducible refine up_drewN ?_ _) | (with_reducible refine up_drew ?_) | (with_reducible refine up_set ?_ (by first | (simp; done) | (simp; omega) | omega) _) | (refine up_trans ?_ (by with_reducible assumption))))).mono ?_); rintro e w1 ⟨rfl, hb1⟩; have k0_0 : w1.cell? ⟨w.heap.size, 0, none⟩ = some (.int .i64 h0) := up_cell hb1 (by first | (with_reducible assumption) | (refine alloc_cell _ ?_; with_reducible assumption) | go_cell); have k0_1 : w1.cell? ⟨w.heap.size, 1, none⟩ = some (.int .i64 h1) := up_cell hb1 (by first | (with_reducible assumption) | (refine alloc_cell _ ?_; with_reducible assumption) | go_cell); have k0_2 : w1.cell? ⟨w.heap.size, 2, none⟩ = some (.int .i64 h2) := up_cell hb1 (by first | (with_reducible assumption) | (refine alloc_cell _ ?_; with_reducible assumption) | go_cell); have k1_0 : w1.cell? ⟨w.heap.size + 1, 0, none⟩ = some (.int .i64 x) := up_cell hb1 (by first | (with_reducible assumption) | (refine alloc_cell _ ?_; with_reducible assumption) | go_cell); have k1_1 : w1.cell? ⟨w.heap.size + 1, 1, none⟩ = some (.int .i64 y) := up_cell hb1 (by first | (with_reducible assumption) | (refine alloc_cell _ ?_; with_reducible assumption) | go_cell)) | (go_at_call 64; (with_reducible refine (unhide hE _).mono ?_); rintro e w2 ⟨rfl, hb2⟩; have z0 := up_cell hb2 k0_0; have z1 := up_cell hb2 k0_1; have z2 := up_cell hb2 k0_2; have z3 := up_cell hb2 k1_0; have z4 := up_cell hb2 k1_1) | (go_at_call 69; (with_reducible refine (unhide hX _).mono ?_); rintro e w3 ⟨rfl, rfl⟩))
      go_ret2
      exact ⟨rfl, (by repeat' (first | (with_reducible exact up_refl _) | (with_reducible assumption) | (with_reducible refine up_alloc ?_ _) | (with_reducible refine up_drewN ?_ _) | (with_reducible refine up_drew ?_) | (with_reducible refine up_set ?_ (by first | (simp; done) | (simp; omega) | omega) _) | (refine up_trans ?_ (by with_reducible assumption))))⟩
    · cases B3
      · go_enter Try.func32, Try.ntmps32
        go_wp2_with (first | (go_at_call 26; (with_reducible refine (unhide hC _ (by repeat' (first | (with_reducible exact up_refl _) | (with_reducible assumption) | (with_reducible refine up_alloc ?_ _) | (with_reducible refine up_drewN ?_ _) | (with_reducible refine up_drew ?_) | (with_reducible refine up_set ?_ (by first | (simp; done) | (simp; omega) | omega) _) | (refine up_trans ?_ (by with_reducible assumption))))).mono ?_); rintro e w1 ⟨rfl, hb1⟩; have k0_0 : w1.cell? ⟨w.heap.size, 0, none⟩ = some (.int .i64 h0) := up_cell hb1 (by first | (with_reducible assumption) | (refine alloc_cell _ ?_; with_reducible assumption) | go_cell); have k0_1 : w1.cell? ⟨w.heap.size, 1, none⟩ = some (.int .i64 h1) := up_cell hb1 (by first | (with_reducible assumption) | (refine alloc_cell _ ?_; with_reducible assumption) | go_cell); have k0_2 : w1.cell? ⟨w.heap.size, 2, none⟩ = some (.int .i64 h2) := up_cell hb1 (by first | (with_reducible assumption) | (refine alloc_cell _ ?_; with_reducible assumption) | go_cell); have k1_0 : w1.cell? ⟨w.heap.size + 1, 0, none⟩ = some (.int .i64 x) := up_cell hb1 (by first | (with_reducible assumption) | (refine alloc_cell _ ?_; with_reducible assumption) | go_cell); have k1_1 : w1.cell? ⟨w.heap.size + 1, 1, none⟩ = some (.int .i64 y) := up_cell hb1 (by first | (with_reducible assumption) | (refine alloc_cell _ ?_; with_reducible assumption) | go_cell)) | (go_at_call 64; (with_reducible refine (unhide hE _).mono ?_); rintro e w2 ⟨rfl, hb2⟩; have z0 := up_cell hb2 k0_0; have z1 := up_cell hb2 k0_1; have z2 := up_cell hb2 k0_2; have z3 := up_cell hb2 k1_0; have z4 := up_cell hb2 k1_1) | (go_at_call 69; (with_reducible refine (unhide hX _).mono ?_); rintro e w3 ⟨rfl, rfl⟩) | (go_at_call 69; (with_reducible refine (unhide hY _).mono ?_); rintro e w3 ⟨rfl, rfl⟩))
        go_ret2
        exact ⟨rfl, (by repeat' (first | (with_reducible exact up_refl _) | (with_reducible assumption) | (with_reducible refine up_alloc ?_ _) | (with_reducible refine up_drewN ?_ _) | (with_reducible refine up_drew ?_) | (with_reducible refine up_set ?_ (by first | (simp; done) | (simp; omega) | omega) _) | (refine up_trans ?_ (by with_reducible assumption))))⟩
      · cases hb
  · clear hF hT
    simp only [if_true] at hE
    obtain ⟨rfl, rfl⟩ := Bool.and_eq_true_iff.1 hb
    go_enter Try.func32, Try.ntmps32
    go_wp2_with (first | (go_at_call 26; (with_reducible refine (unhide hC _ (by repeat' (first | (with_reducible exact up_refl _) | (with_reducible assumption) | (with_reducible refine up_alloc ?_ _) | (with_reducible refine up_drewN ?_ _) | (with_reducible refine up_drew ?_) | (with_reducible refine up_set ?_ (by first | (simp; done) | (simp; omega) | omega) _) | (refine up_trans ?_ (by with_reducible assumption))))).mono ?_); rintro e w1 ⟨rfl, hb1⟩; have k0_0 : w1.cell? ⟨w.heap.size, 0, none⟩ = some (.int .i64 h0) := up_cell hb1 (by first | (with_reducible assumption) | (refine alloc_cell _ ?_; with_reducible assumption) | go_cell); have k0_1 : w1.cell? ⟨w.heap.size, 1, none⟩ = some (.int .i64 h1) := up_cell hb1 (by first | (with_reducible assumption) | (refine alloc_cell _ ?_; with_reducible assumption) | go_cell); have k0_2 : w1.cell? ⟨w.heap.size, 2, none⟩ = some (.int .i64 h2) := up_cell hb1 (by first | (with_reducible assumption) | (refine alloc_cell _ ?_; with_reducible assumption) | go_cell); have k1_0 : w1.cell? ⟨w.heap.size + 1, 0, none⟩ = some (.int .i64 0) := up_cell hb1 (by first | (with_reducible assumption) | (refine alloc_cell _ ?_; with_reducible assumption) | go_cell); have k1_1 : w1.cell? ⟨w.heap.size + 1, 1, none⟩ = some (.int .i64 0) := up_cell hb1 (by first | (with_reducible assumption) | (refine alloc_cell _ ?_; with_reducible assumption) | go_cell)) | (go_at_call 64; (with_reducible refine (unhide hE _).mono ?_); rintro e w2 ⟨rfl, hb2⟩; have z0 := up_cell hb2 k0_0; have z1 := up_cell hb2 k0_1; have z2 := up_cell hb2 k0_2; have z3 := up_cell hb2 k1_0; have z4 := up_cell hb2 k1_1) | (go_at_call 69; (with_reducible refine (unhide hX _).mono ?_); rintro e w3 ⟨rfl, rfl⟩) | (go_at_call 69; (with_reducible refine (unhide hY _).mono ?_); rintro e w3 ⟨rfl, rfl⟩))
    go_ret2
    exact ⟨rfl, (by repeat' (first | (with_reducible exact up_refl _) | (with_reducible assumption) | (with_reducible refine up_alloc ?_ _) | (with_reducible refine up_drewN ?_ _) | (with_reducible refine up_drew ?_) | (with_reducible refine up_set ?_ (by first | (simp; done) | (simp; omega) | omega) _) | (refine up_trans ?_ (by with_reducible assumption))))⟩
  · simp only [if_true] at hE
    obtain ⟨rfl, rfl⟩ := Bool.and_eq_true_iff.1 hb
    obtain ⟨⟨hx1, hx2⟩, hy1, hy2⟩ := unhide hten rfl rfl
    clear hten hb
    have go : ∀ (zx zy : Bool), (x == 0) = zx → (y == 0) = zy → (zx && zy) = false → Calls Try.prog 32 #[.slice A n cap, .agg #[.int .i64 h0, .int .i64 h1, .int .i64 h2], pt x y] w fun e w' => e = .returned (.tuple #[.int .i64 V, .int .i64 E]) ∧ Up w w' := by
      intro zx zy hzx hzy hz
      have hx0 : zx = false → ¬ x = 0 := by intro e h; subst h; simp at hzx; rw [e] at hzx; cases hzx
      have hy0 : zy = false → ¬ y = 0 := by intro e h; subst h; simp at hzy; rw [e] at hzy; cases hzy
      clear cz
      have st : ∀ (X0 Y0 : Int), X0 = x → Y0 = y → ((X0 == 0) = true → (Y0 == 0) = false ∧ ¬ Y0 = 0) → Calls Try.prog 32 #[.slice A n cap, .agg #[.int .i64 h0, .int .i64 h1, .int .i64 h2], pt x y] w fun e w' => e = .returned (.tuple #[.int .i64 V, .int .i64 E]) ∧ Up w w' := by
        intro X0 Y0 e1 e2 hne
        subst e1 e2
        clear hx0 hy0 hzx hzy hz
        go_enter Try.func32, Try.ntmps32
        go_upto_region 5 with (first | (go_at_call 26; (with_reducible refine (unhide hC _ (by repeat' (first | (with_reducible exact up_refl _) | (with_reducible assumption) | (with_reducible refine up_alloc ?_ _) | (with_reducible refine up_drewN ?_ _) | (with_reducible refine up_drew ?_) | (with_reducible refine up_set ?_ (by first | (simp; done) | (simp; omega) | omega) _) | (refine up_trans ?_ (by with_reducible assumption))))).mono ?_); rintro e w1 ⟨rfl, hb1⟩; have k0_0 : w1.cell? ⟨w.heap.size, 0, none⟩ = some (.int .i64 h0) := up_cell hb1 (by first | (with_reducible assumption) | (refine alloc_cell _ ?_; with_reducible assumption) | go_cell); have k0_1 : w1.cell? ⟨w.heap.size, 1, none⟩ = some (.int .i64 h1) := up_cell hb1 (by first | (with_reducible assumption) | (refine alloc_cell _ ?_; with_reducible assumption) | go_cell); have k0_2 : w1.cell? ⟨w.heap.size, 2, none⟩ = some (.int .i64 h2) := up_cell hb1 (by first | (with_reducible assumption) | (refine alloc_cell _ ?_; with_reducible assumption) | go_cell); have k1_0 : w1.cell? ⟨w.heap.size + 1, 0, none⟩ = some (.int .i64 X0) := up_cell hb1 (by first | (with_reducible assumption) | (refine alloc_cell _ ?_; with_reducible assumption) | go_cell); have k1_1 : w1.cell? ⟨w.heap.size + 1, 1, none⟩ = some (.int .i64 Y0) := up_cell hb1 (by first | (with_reducible assumption) | (refine alloc_cell _ ?_; with_reducible assumption) | go_cell)) | (go_at_call 64; (with_reducible refine (unhide hE _).mono ?_); rintro e w2 ⟨rfl, hb2⟩; have z0 := up_cell hb2 k0_0; have z1 := up_cell hb2 k0_1; have z2 := up_cell hb2 k0_2; have z3 := up_cell hb2 k1_0; have z4 := up_cell hb2 k1_1))
        go_cut [33] (fun s wx' => s = .bool false ∧ Up w2 wx')
        case first =>
          by_cases hx : X0 = 0
          · subst hx
            obtain ⟨g1, g2⟩ := hne rfl
            go_wp2_with (first | (go_at_call 69; (with_reducible refine (unhide hX _).mono ?_); rintro e w3 ⟨rfl, rfl⟩) | (go_at_call 69; (with_reducible refine (unhide hY _).mono ?_); rintro e w3 ⟨rfl, rfl⟩))
            go_meet
            exact ⟨rfl, (by repeat' (first | (with_reducible exact up_refl _) | (with_reducible assumption) | (with_reducible refine up_alloc ?_ _) | (with_reducible refine up_drewN ?_ _) | (with_reducible refine up_drew ?_) | (with_reducible refine up_set ?_ (by first | (simp; done) | (simp; omega) | omega) _) | (refine up_trans ?_ (by with_reducible assumption))))⟩
          · have g1 : (X0 == 0) = false := by simp; exact hx
            go_wp2_with (first | (go_at_call 69; (with_reducible refine (unhide hX _).mono ?_); rintro e w3 ⟨rfl, rfl⟩) | (go_at_call 69; (with_reducible refine (unhide hY _).mono ?_); rintro e w3 ⟨rfl, rfl⟩))
            go_meet
            exact ⟨rfl, (by repeat' (first | (with_reducible exact up_refl _) | (with_reducible assumption) | (with_reducible refine up_alloc ?_ _) | (with_reducible refine up_drewN ?_ _) | (with_reducible refine up_drew ?_) | (with_reducible refine up_set ?_ (by first | (simp; done) | (simp; omega) | omega) _) | (refine up_trans ?_ (by with_reducible assumption))))⟩
        case rest =>
        obtain ⟨rfl, hu0⟩ := hcut
        obtain ⟨wo, rfl⟩ : ∃ z : World, z = wc := ⟨_, rfl⟩
        have C0 : Bx wo w.heap.size [.int .i64 h0, .int .i64 h1, .int .i64 h2] := bx_up (bx_up (bx_up (bx_alloc (bx_new w _ 30) (.cells #[.int .i64 X0, .int .i64 Y0] 46)) hb1) hb2) hu0
        have S0 : Bx wo (w.heap.size + 1) [.int .i64 X0, .int .i64 Y0] := by
          have t := bx_new (w.alloc (.cells #[.int .i64 h0, .int .i64 h1, .int .i64 h2] 30)) [.int .i64 X0, .int .i64 Y0] 46
          rw [sz1] at t
          exact bx_up (bx_up (bx_up t hb1) hb2) hu0
        have U0 : Up w wo := up_trans (by repeat' (first | (with_reducible exact up_refl _) | (with_reducible assumption) | (with_reducible refine up_alloc ?_ _) | (with_reducible refine up_drewN ?_ _) | (with_reducible refine up_drew ?_) | (with_reducible refine up_set ?_ (by first | (simp; done) | (simp; omega) | omega) _) | (refine up_trans ?_ (by with_reducible assumption)))) hu0
        clear hu0 k0_0 k0_1 k0_2 k1_0 k1_1 z0 z1 z2 z3 z4 hb1 hb2 hC hE hX hY hne
        go_wp2_with fail
        go_loopw [8] (fun s8 wr => ∃ k : Nat, k ≤ K ∧ s8 = .int .i64 k ∧ Up wo wr ∧ (1 ≤ k → 1 ≤ K)) (fun s8 _ => 1001 - (intOf s8).toNat)
        case atStart => exact ⟨0, by omega, rfl, up_refl _, by omega⟩
        case round =>
          obtain ⟨k, hk, rfl, hu, hk0⟩ := hrel
          by_cases hlt : k < 1001
          · have p1 := Gs.mb (u := (k : Int)) (v := X0) (U := 1000) (V := 10) (by omega) (by omega) (by omega) (by omega)
            have p2 := Gs.mb (u := (k : Int)) (v := Y0) (U := 1000) (V := 10) (by omega) (by omega) (by omega) (by omega)
            have e0 : IntKind.i64.wrap (k : Int) = (k : Int) := IntWalk.i64_in _ ⟨by omega, by omega⟩
            have e1 : IntKind.i64.wrap ((k : Int) * X0) = (k : Int) * X0 := IntWalk.i64_in _ ⟨by omega, by omega⟩
            have e2 : IntKind.i64.wrap ((k : Int) * Y0) = (k : Int) * Y0 := IntWalk.i64_in _ ⟨by omega, by omega⟩
            have hS2 : tlS ps h0 h1 h2 X0 Y0 k = (!(slB ((k : Int) * X0) ((k : Int) * Y0) 1000) || decide (0 ≤ lif (pa0 ps (ft h0 h2 ((k : Int) * X0) 0) (ft h1 h2 ((k : Int) * Y0) 0)) (pa1 ps (ft h0 h2 ((k : Int) * X0) 0) (ft h1 h2 ((k : Int) * Y0) 0)) (pa2 ps (ft h0 h2 ((k : Int) * X0) 0) (ft h1 h2 ((k : Int) * Y0) 0)))) := rfl
            have hz : k = 0 → (k : Int) * X0 = 0 ∧ (k : Int) * Y0 = 0 := by intro e; subst e; simp
            clear p1 p2
            obtain ⟨kx, hkx⟩ : ∃ n, (k : Int) * X0 = n := ⟨_, rfl⟩
            obtain ⟨ky, hky⟩ : ∃ n, (k : Int) * Y0 = n := ⟨_, rfl⟩
            rw [hkx, hky] at hS2 hz
            have e3 : IntKind.i64.wrap ((k : Int) * X0) = kx := by rw [e1]; exact hkx
            have e4 : IntKind.i64.wrap ((k : Int) * Y0) = ky := by rw [e2]; exact hky
            clear e1 e2 hkx hky
            have hF2 := hide (fun W => unhide hF kx ky W)
            obtain ⟨x0, x1⟩ := bx2 (bx_up S0 hu)
            obtain ⟨x2, x3, x4⟩ := bx3 (bx_up C0 hu)
            cases hs : slB kx ky 1000
            · -- the slope is too great: it isn't the first step
              have hst : tlS ps h0 h1 h2 X0 Y0 k = true := by rw [hS2, hs]; rfl
              obtain rfl := fst_stop (unhide HK) hk hlt hst
              have hk1 : ¬ k = 0 := by
                intro e
                obtain ⟨a, b⟩ := hz e
                subst a b
                exact absurd hs (by decide)
              rw [lnE_f hs] at hF2
              generalize foV h0 h1 h2 kx ky 0 0 (ft h0 h2 kx 0) = f0 at *
              generalize foV h0 h1 h2 kx ky 0 0 (ft h1 h2 ky 0) = f1 at *
              have hk2 : ((k : Int) == 0) = false := by simp; omega
              have hk3 : ¬ (k : Int) = 0 := by omega
              have e5 : IntKind.i64.wrap ((k : Int) - 1) = (k : Int) - 1 := IntWalk.i64_in _ ⟨by omega, by omega⟩
              rcases ck with ⟨a, _⟩ | ⟨k1, rfl, rfl⟩
              · omega
              clear hS2 hst hs hF hT hAt HK hz
              go_wp2_with (go_at_call 28; (with_reducible refine (unhide hF2 _).mono ?_); rintro e w4 ⟨rfl, hb4⟩; have F4 := bx_new w4 [.int .i64 f0, .int .i64 f1] 29; obtain ⟨f4_0, f4_1⟩ := bx2 F4)
              go_ret2
              exact ⟨rfl, (by repeat' (first | (with_reducible exact up_refl _) | (with_reducible assumption) | (with_reducible refine up_alloc ?_ _) | (with_reducible refine up_drewN ?_ _) | (with_reducible refine up_drew ?_) | (with_reducible refine up_set ?_ (by first | (simp; done) | (simp; omega) | omega) _) | (refine up_trans ?_ (by with_reducible assumption))))⟩
            · obtain ⟨g1, g2⟩ := unhide hAt kx ky (by first | rfl | trivial) (by first | rfl | trivial) hs
              rw [lnE_t g1, foV_t g1, foV_t g1] at hF2
              have hT2 := hide (unhide hT (ft h0 h2 kx 0) (ft h1 h2 ky 0) g2)
              have hst : ∀ L : Int, lif (pa0 ps (ft h0 h2 kx 0) (ft h1 h2 ky 0)) (pa1 ps (ft h0 h2 kx 0) (ft h1 h2 ky 0)) (pa2 ps (ft h0 h2 kx 0) (ft h1 h2 ky 0)) = L → (0 ≤ L → k = K) ∧ (¬ 0 ≤ L → k < K) := by
                intro L hL
                rw [hs, hL] at hS2
                refine ⟨fun h => fst_stop (unhide HK) hk hlt (by rw [hS2]; simp [h]), fun h => fst_go (unhide HK) hk hlt (by rw [hS2]; simp; omega)⟩
              clear hF hT hAt HK hS2 hs g1 g2
              generalize lif (pa0 ps (ft h0 h2 kx 0) (ft h1 h2 ky 0)) (pa1 ps (ft h0 h2 kx 0) (ft h1 h2 ky 0)) (pa2 ps (ft h0 h2 kx 0) (ft h1 h2 ky 0)) = L at *
              generalize ft h0 h2 kx 0 = f0 at *
              generalize ft h1 h2 ky 0 = f1 at *
              obtain ⟨st1, st2⟩ := hst L rfl
              clear hst
              have hu3 := up_trans U0 hu
              by_cases cL : 0 ≤ L
              · obtain rfl := st1 cL
                clear st1 st2
                by_cases hk0' : k = 0
                · subst hk0'
                  obtain ⟨za, zb⟩ := hz rfl
                  subst za zb
                  rcases ck with ⟨_, rfl, rfl⟩ | ⟨k1, _⟩
                  · go_wp2_with (first | (go_at_call 28; (with_reducible refine (unhide hF2 _).mono ?_); rintro e w4 ⟨rfl, hb4⟩; have F4 := bx_new w4 [.int .i64 f0, .int .i64 f1] 29; obtain ⟨f4_0, f4_1⟩ := bx2 F4) | (go_at_call 57; (with_reducible refine (unhide hT2 _ (by repeat' (first | (with_reducible exact up_refl _) | (with_reducible assumption) | (with_reducible refine up_alloc ?_ _) | (with_reducible refine up_drewN ?_ _) | (with_reducible refine up_drew ?_) | (with_reducible refine up_set ?_ (by first | (simp; done) | (simp; omega) | omega) _) | (refine up_trans ?_ (by with_reducible assumption))))).mono ?_); rintro e w5 ⟨rfl, hb5⟩; have F5 := bx_up F4 hb5; obtain ⟨f5_0, f5_1⟩ := bx2 F5))
                    go_ret2
                    exact ⟨rfl, (by repeat' (first | (with_reducible exact up_refl _) | (with_reducible assumption) | (with_reducible refine up_alloc ?_ _) | (with_reducible refine up_drewN ?_ _) | (with_reducible refine up_drew ?_) | (with_reducible refine up_set ?_ (by first | (simp; done) | (simp; omega) | omega) _) | (refine up_trans ?_ (by with_reducible assumption))))⟩
                  · omega
                · have hk2 : ((k : Int) == 0) = false := by simp; omega
                  have hk3 : ¬ (k : Int) = 0 := by omega
                  have e5 : IntKind.i64.wrap ((k : Int) - 1) = (k : Int) - 1 := IntWalk.i64_in _ ⟨by omega, by omega⟩
                  rcases ck with ⟨a, _⟩ | ⟨k1, rfl, rfl⟩
                  · omega
                  go_wp2_with (first | (go_at_call 28; (with_reducible refine (unhide hF2 _).mono ?_); rintro e w4 ⟨rfl, hb4⟩; have F4 := bx_new w4 [.int .i64 f0, .int .i64 f1] 29; obtain ⟨f4_0, f4_1⟩ := bx2 F4) | (go_at_call 57; (with_reducible refine (unhide hT2 _ (by repeat' (first | (with_reducible exact up_refl _) | (with_reducible assumption) | (with_reducible refine up_alloc ?_ _) | (with_reducible refine up_drewN ?_ _) | (with_reducible refine up_drew ?_) | (with_reducible refine up_set ?_ (by first | (simp; done) | (simp; omega) | omega) _) | (refine up_trans ?_ (by with_reducible assumption))))).mono ?_); rintro e w5 ⟨rfl, hb5⟩; have F5 := bx_up F4 hb5; obtain ⟨f5_0, f5_1⟩ := bx2 F5))
                  go_ret2
                  exact ⟨rfl, (by repeat' (first | (with_reducible exact up_refl _) | (with_reducible assumption) | (with_reducible refine up_alloc ?_ _) | (with_reducible refine up_drewN ?_ _) | (with_reducible refine up_drew ?_) | (with_reducible refine up_set ?_ (by first | (simp; done) | (simp; omega) | omega) _) | (refine up_trans ?_ (by with_reducible assumption))))⟩
              · have hkK := st2 cL
                clear st1 st2
                by_cases hk0' : k = 0
                · subst hk0'
                  obtain ⟨za, zb⟩ := hz rfl
                  subst za zb
                  go_wp2_with (first | (go_at_call 28; (with_reducible refine (unhide hF2 _).mono ?_); rintro e w4 ⟨rfl, hb4⟩; have F4 := bx_new w4 [.int .i64 f0, .int .i64 f1] 29; obtain ⟨f4_0, f4_1⟩ := bx2 F4) | (go_at_call 57; (with_reducible refine (unhide hT2 _ (by repeat' (first | (with_reducible exact up_refl _) | (with_reducible assumption) | (with_reducible refine up_alloc ?_ _) | (with_reducible refine up_drewN ?_ _) | (with_reducible refine up_drew ?_) | (with_reducible refine up_set ?_ (by first | (simp; done) | (simp; omega) | omega) _) | (refine up_trans ?_ (by with_reducible assumption))))).mono ?_); rintro e w5 ⟨rfl, hb5⟩; have F5 := bx_up F4 hb5; obtain ⟨f5_0, f5_1⟩ := bx2 F5) | (go_at_call 57; (with_reducible refine (unhide hT2 _ (by repeat' (first | (with_reducible exact up_refl _) | (with_reducible assumption) | (with_reducible refine up_alloc ?_ _) | (with_reducible refine up_drewN ?_ _) | (with_reducible refine up_drew ?_) | (with_reducible refine up_set ?_ (by first | (simp; done) | (simp; omega) | omega) _) | (refine up_trans ?_ (by with_reducible assumption))))).mono ?_); rintro e w6 ⟨rfl, hb6⟩))
                  go_roundw
                  case rel => exact ⟨1, by omega, rfl, (by repeat' (first | (with_reducible exact up_refl _) | (with_reducible assumption) | (with_reducible refine up_alloc ?_ _) | (with_reducible refine up_drewN ?_ _) | (with_reducible refine up_drew ?_) | (with_reducible refine up_set ?_ (by first | (simp; done) | (simp; omega) | omega) _) | (refine up_trans ?_ (by with_reducible assumption)))), fun _ => by omega⟩
                  case measure => simp [intOf]
                · have hk2 : ((k : Int) == 0) = false := by simp; omega
                  have hk3 : ¬ (k : Int) = 0 := by omega
                  go_wp2_with (first | (go_at_call 28; (with_reducible refine (unhide hF2 _).mono ?_); rintro e w4 ⟨rfl, hb4⟩; have F4 := bx_new w4 [.int .i64 f0, .int .i64 f1] 29; obtain ⟨f4_0, f4_1⟩ := bx2 F4) | (go_at_call 57; (with_reducible refine (unhide hT2 _ (by repeat' (first | (with_reducible exact up_refl _) | (with_reducible assumption) | (with_reducible refine up_alloc ?_ _) | (with_reducible refine up_drewN ?_ _) | (with_reducible refine up_drew ?_) | (with_reducible refine up_set ?_ (by first | (simp; done) | (simp; omega) | omega) _) | (refine up_trans ?_ (by with_reducible assumption))))).mono ?_); rintro e w5 ⟨rfl, hb5⟩; have F5 := bx_up F4 hb5; obtain ⟨f5_0, f5_1⟩ := bx2 F5))
                  go_roundw
                  case rel => exact ⟨k + 1, by omega, by go_num, (by repeat' (first | (with_reducible exact up_refl _) | (with_reducible assumption) | (with_reducible refine up_alloc ?_ _) | (with_reducible refine up_drewN ?_ _) | (with_reducible refine up_drew ?_) | (with_reducible refine up_set ?_ (by first | (simp; done) | (simp; omega) | omega) _) | (refine up_trans ?_ (by with_reducible assumption)))), fun _ => by omega⟩
                  case measure => simp [intOf]; omega
          · obtain rfl : k = 1001 := by omega
            have hKe : K = 1001 := by omega
            subst hKe
            rcases ck with ⟨a, _⟩ | ⟨k1, rfl, rfl⟩
            · omega
            go_wp2_with fail
            go_ret2
            exact ⟨rfl, (by repeat' (first | (with_reducible exact up_refl _) | (with_reducible assumption) | (with_reducible refine up_alloc ?_ _) | (with_reducible refine up_drewN ?_ _) | (with_reducible refine up_drew ?_) | (with_reducible refine up_set ?_ (by first | (simp; done) | (simp; omega) | omega) _) | (refine up_trans ?_ (by with_reducible assumption))))⟩
      refine st x y rfl rfl (fun e => ?_)
      have ex : zx = true := by rw [← hzx]; exact e
      subst ex
      have ey : zy = false := by cases zy <;> simp_all
      subst ey
      exact ⟨hzy, hy0 rfl⟩
    refine go (x == 0) (y == 0) rfl rfl ?_
    by_cases hx : x = 0
    · subst hx
      have : ¬ y = 0 := fun e => cz ⟨rfl, e⟩
      simp; exact this
    · simp [hx]
end Go.Proofs.Ytgjcpgmnflpdkaa
