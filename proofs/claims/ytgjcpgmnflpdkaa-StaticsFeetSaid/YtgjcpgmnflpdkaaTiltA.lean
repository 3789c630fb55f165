/- Tilt as it is handed out, and the document's own answer. -/
import Derived.Test.YtgjcpgmnflpdkaaTiltG
import Derived.Test.YtgjcpgmnflpdkaaRefFeet
namespace Go.Proofs.Ytgjcpgmnflpdkaa
open Go.RowKit Go.Proofs.Gn
def tlE (ps : List Gs.Sup) (h0 h1 h2 x y : Int) (K : Nat) : Int := if chE ps = 0 then (if ceB h0 h1 h2 then (if slB x y 10 then (if x = 0 ∧ y = 0 then 2 else (if K = 0 then 19 else 0)) else 2) else 3) else chE ps
def tlV (ps : List Gs.Sup) (h0 h1 h2 x y : Int) (K : Nat) : Int := if tlE ps h0 h1 h2 x y K = 0 then (K : Int) - 1 else 0
theorem slB_ten {x y : Int} (h : slB x y 10 = true) : (-10 ≤ x ∧ x ≤ 10) ∧ -10 ≤ y ∧ y ≤ 10 := by
  unfold slB at h
  rw [Bool.and_eq_true, win_iff, win_iff] at h
  exact h
/-- The ways through. -/
theorem tl_cases (ps : List Gs.Sup) (h0 h1 h2 x y : Int) (K : Nat) :
    (¬ chE ps = 0 ∧ tlE ps h0 h1 h2 x y K = chE ps ∧ tlV ps h0 h1 h2 x y K = 0) ∨
    (chE ps = 0 ∧ ceB h0 h1 h2 = false ∧ tlE ps h0 h1 h2 x y K = 3 ∧ tlV ps h0 h1 h2 x y K = 0) ∨
    (chE ps = 0 ∧ ceB h0 h1 h2 = true ∧ slB x y 10 = false ∧ tlE ps h0 h1 h2 x y K = 2 ∧ tlV ps h0 h1 h2 x y K = 0) ∨
    (chE ps = 0 ∧ ceB h0 h1 h2 = true ∧ slB x y 10 = true ∧ (x = 0 ∧ y = 0) ∧ tlE ps h0 h1 h2 x y K = 2 ∧ tlV ps h0 h1 h2 x y K = 0) ∨
    (chE ps = 0 ∧ ceB h0 h1 h2 = true ∧ slB x y 10 = true ∧ ¬ (x = 0 ∧ y = 0) ∧ ((K = 0 ∧ tlE ps h0 h1 h2 x y K = 19 ∧ tlV ps h0 h1 h2 x y K = 0) ∨ (1 ≤ K ∧ tlE ps h0 h1 h2 x y K = 0 ∧ tlV ps h0 h1 h2 x y K = (K : Int) - 1))) := by
  unfold tlV
  by_cases c : chE ps = 0
  · cases hc : ceB h0 h1 h2
    · have e : tlE ps h0 h1 h2 x y K = 3 := by unfold tlE; rw [if_pos c, hc]; rfl
      rw [e]; exact .inr (.inl ⟨c, rfl, rfl, rfl⟩)
    · cases hs : slB x y 10
      · have e : tlE ps h0 h1 h2 x y K = 2 := by unfold tlE; rw [if_pos c, hc, hs]; rfl
        rw [e]; exact .inr (.inr (.inl ⟨c, rfl, rfl, rfl, rfl⟩))
      · by_cases z : x = 0 ∧ y = 0
        · have e : tlE ps h0 h1 h2 x y K = 2 := by unfold tlE; rw [if_pos c, hc, hs, if_pos rfl, if_pos rfl, if_pos z]
          rw [e]; exact .inr (.inr (.inr (.inl ⟨c, rfl, rfl, z, rfl, rfl⟩)))
        · by_cases k : K = 0
          · have e : tlE ps h0 h1 h2 x y K = 19 := by unfold tlE; rw [if_pos c, hc, hs, if_pos rfl, if_pos rfl, if_neg z, if_pos k]
            rw [e]; exact .inr (.inr (.inr (.inr ⟨c, rfl, rfl, z, .inl ⟨k, rfl, rfl⟩⟩)))
          · have e : tlE ps h0 h1 h2 x y K = 0 := by unfold tlE; rw [if_pos c, hc, hs, if_pos rfl, if_pos rfl, if_neg z, if_neg k]
            rw [e]; exact .inr (.inr (.inr (.inr ⟨c, rfl, rfl, z, .inr ⟨by omega, rfl, rfl⟩⟩)))
  · have e : tlE ps h0 h1 h2 x y K = chE ps := by unfold tlE; rw [if_neg c]
    rw [e, if_neg c]; exact .inl ⟨c, rfl, rfl⟩
set_option maxRecDepth 100000 in
set_option maxHeartbeats 8000000 in
theorem p_TiltA (A : Option Addr) (ps : List Gs.Sup) (cap : Nat) (h0 h1 h2 x y : Int) (K : Nat) (hK : Fst (tlS ps h0 h1 h2 x y) K) (hn : ps.length ≤ 9223372036854775807) (w : World) (h : Sups w A ps) :
    Calls Try.prog 31 #[.slice A ps.length cap, .agg #[.int .i64 h0, .int .i64 h1, .int .i64 h2], pt x y] w fun e w' => e = .returned (.tuple #[.int .i64 (tlV ps h0 h1 h2 x y K), .int .i64 (tlE ps h0 h1 h2 x y K)]) ∧ Up w w' := by
  have hC := hide (fun (W : World) (hW : Up w W) => p_Check A ps cap W (sups_up h hW) hn)
  have hE := hide (fun W => p_checkCentre h0 h1 h2 W)
  have HW0 : ∀ W : World, Calls Try.prog 67 #[pt x y, .int .i64 10] W fun e w' => e = .returned (.bool (slB x y 10)) ∧ Up W w' := fun W => p_upTo x y 10 (by omega) W
  have hS := hide (fun (e : chE ps = 0) (W : World) (hW : Up w W) => p_sums9 A ps cap (chE_ok e).1 (chE_ok e).2.1 W (sups_up h hW))
  have hT := hide (fun (a : chE ps = 0) (b : ceB h0 h1 h2 = true) (c : slB x y 10 = true) (W : World) => p_tiltG ps h0 h1 h2 x y a b (slB_ten c).1 (slB_ten c).2 K hK W)
  have hW := hide HW0
  have hcs := tl_cases ps h0 h1 h2 x y K
  have hK1 := hK.1
  clear HW0 h hn hK
  unfold ceE at hE
  obtain ⟨n, hN⟩ : ∃ n, ps.length = n := ⟨_, rfl⟩
  rw [hN] at hC hS ⊢
  clear hN
  generalize n9 ps = m at *
  generalize tlE ps h0 h1 h2 x y K = E at *
  generalize tlV ps h0 h1 h2 x y K = V at *
  generalize chE ps = C at *
  generalize ceB h0 h1 h2 = B1 at *
  generalize slB x y 10 = B2 at *
  rcases hcs with ⟨c1, rfl, rfl⟩ | ⟨rfl, rfl, rfl, rfl⟩ | ⟨rfl, rfl, rfl, rfl, rfl⟩ | ⟨rfl, rfl, rfl, ⟨rfl, rfl⟩, rfl, rfl⟩ | ⟨rfl, rfl, rfl, cz, ck⟩
  · clear hE hW hS hT
    have c2 : (E == 0) = false := by simp; exact c1
    go_enter Try.func31, Try.ntmps31
    go_wp2_with (go_at_call 25; (with_reducible refine (unhide hC _ (by repeat' (first | (with_reducible exact up_refl _) | (with_reducible assumption) | (with_reducible refine up_alloc ?_ _) | (with_reducible refine up_drewN ?_ _) | (with_reducible refine up_drew ?_) | (with_reducible refine up_set ?_ (by first | (simp; done) | (simp; omega) | omega) _) | (refine up_trans ?_ (by with_reducible assumption))))).mono ?_); rintro e w1 ⟨rfl, hb1⟩; have k0_0 : w1.cell? ⟨w.heap.size, 0, none⟩ = some (.int .i64 h0) := up_cell hb1 (by first | (with_reducible assumption) | (refine alloc_cell _ ?_; with_reducible assumption) | go_cell); have k0_1 : w1.cell? ⟨w.heap.size, 1, none⟩ = some (.int .i64 h1) := up_cell hb1 (by first | (with_reducible assumption) | (refine alloc_cell _ ?_; with_reducible assumption) | go_cell); have k0_2 : w1.cell? ⟨w.heap.size, 2, none⟩ = some (.int .i64 h2) := up_cell hb1 (by first | (with_reducible assumption) | (refine alloc_cell _ ?_; with_reducible assumption) | go_cell); have k1_0 : w1.cell? ⟨w.heap.size + 1, 0, none⟩ = some (.int .i64 x) := up_cell hb1 (by first | (with_reducible assumption) | (refine alloc_cell _ ?_; with_reducible assumption) | go_cell); have k1_1 : w1.cell? ⟨w.heap.size + 1, 1, none⟩ = some (.int .i64 y) := up_cell hb1 (by first | (with_reducible assumption) | (refine alloc_cell _ ?_; with_reducible assumption) | go_cell))
    go_ret2
    exact ⟨rfl, (by repeat' (first | (with_reducible exact up_refl _) | (with_reducible assumption) | (with_reducible refine up_alloc ?_ _) | (with_reducible refine up_drewN ?_ _) | (with_reducible refine up_drew ?_) | (with_reducible refine up_set ?_ (by first | (simp; done) | (simp; omega) | omega) _) | (refine up_trans ?_ (by with_reducible assumption))))⟩
  · clear hW hS hT
    simp only [Bool.false_eq_true, if_false] at hE
    go_enter Try.func31, Try.ntmps31
    go_wp2_with (first | (go_at_call 25; (with_reducible refine (unhide hC _ (by repeat' (first | (with_reducible exact up_refl _) | (with_reducible assumption) | (with_reducible refine up_alloc ?_ _) | (with_reducible refine up_drewN ?_ _) | (with_reducible refine up_drew ?_) | (with_reducible refine up_set ?_ (by first | (simp; done) | (simp; omega) | omega) _) | (refine up_trans ?_ (by with_reducible assumption))))).mono ?_); rintro e w1 ⟨rfl, hb1⟩; have k0_0 : w1.cell? ⟨w.heap.size, 0, none⟩ = some (.int .i64 h0) := up_cell hb1 (by first | (with_reducible assumption) | (refine alloc_cell _ ?_; with_reducible assumption) | go_cell); have k0_1 : w1.cell? ⟨w.heap.size, 1, none⟩ = some (.int .i64 h1) := up_cell hb1 (by first | (with_reducible assumption) | (refine alloc_cell _ ?_; with_reducible assumption) | go_cell); have k0_2 : w1.cell? ⟨w.heap.size, 2, none⟩ = some (.int .i64 h2) := up_cell hb1 (by first | (with_reducible assumption) | (refine alloc_cell _ ?_; with_reducible assumption) | go_cell); have k1_0 : w1.cell? ⟨w.heap.size + 1, 0, none⟩ = some (.int .i64 x) := up_cell hb1 (by first | (with_reducible assumption) | (refine alloc_cell _ ?_; with_reducible assumption) | go_cell); have k1_1 : w1.cell? ⟨w.heap.size + 1, 1, none⟩ = some (.int .i64 y) := up_cell hb1 (by first | (with_reducible assumption) | (refine alloc_cell _ ?_; with_reducible assumption) | go_cell)) | (go_at_call 71; (with_reducible refine (unhide hE _).mono ?_); rintro e w2 ⟨rfl, hb2⟩; have z0 := up_cell hb2 k0_0; have z1 := up_cell hb2 k0_1; have z2 := up_cell hb2 k0_2; have z3 := up_cell hb2 k1_0; have z4 := up_cell hb2 k1_1))
    go_ret2
    exact ⟨rfl, (by repeat' (first | (with_reducible exact up_refl _) | (with_reducible assumption) | (with_reducible refine up_alloc ?_ _) | (with_reducible refine up_drewN ?_ _) | (with_reducible refine up_drew ?_) | (with_reducible refine up_set ?_ (by first | (simp; done) | (simp; omega) | omega) _) | (refine up_trans ?_ (by with_reducible assumption))))⟩
  · clear hS hT
    simp only [if_true] at hE
    go_enter Try.func31, Try.ntmps31
    go_wp2_with (first | (go_at_call 25; (with_reducible refine (unhide hC _ (by repeat' (first | (with_reducible exact up_refl _) | (with_reducible assumption) | (with_reducible refine up_alloc ?_ _) | (with_reducible refine up_drewN ?_ _) | (with_reducible refine up_drew ?_) | (with_reducible refine up_set ?_ (by first | (simp; done) | (simp; omega) | omega) _) | (refine up_trans ?_ (by with_reducible assumption))))).mono ?_); rintro e w1 ⟨rfl, hb1⟩; have k0_0 : w1.cell? ⟨w.heap.size, 0, none⟩ = some (.int .i64 h0) := up_cell hb1 (by first | (with_reducible assumption) | (refine alloc_cell _ ?_; with_reducible assumption) | go_cell); have k0_1 : w1.cell? ⟨w.heap.size, 1, none⟩ = some (.int .i64 h1) := up_cell hb1 (by first | (with_reducible assumption) | (refine alloc_cell _ ?_; with_reducible assumption) | go_cell); have k0_2 : w1.cell? ⟨w.heap.size, 2, none⟩ = some (.int .i64 h2) := up_cell hb1 (by first | (with_reducible assumption) | (refine alloc_cell _ ?_; with_reducible assumption) | go_cell); have k1_0 : w1.cell? ⟨w.heap.size + 1, 0, none⟩ = some (.int .i64 x) := up_cell hb1 (by first | (with_reducible assumption) | (refine alloc_cell _ ?_; with_reducible assumption) | go_cell); have k1_1 : w1.cell? ⟨w.heap.size + 1, 1, none⟩ = some (.int .i64 y) := up_cell hb1 (by first | (with_reducible assumption) | (refine alloc_cell _ ?_; with_reducible assumption) | go_cell)) | (go_at_call 71; (with_reducible refine (unhide hE _).mono ?_); rintro e w2 ⟨rfl, hb2⟩; have z0 := up_cell hb2 k0_0; have z1 := up_cell hb2 k0_1; have z2 := up_cell hb2 k0_2; have z3 := up_cell hb2 k1_0; have z4 := up_cell hb2 k1_1) | (go_at_call 67; (with_reducible refine (unhide hW _).mono ?_); rintro e w3 ⟨rfl, hb3⟩; have y0 := up_cell hb3 z0; have y1 := up_cell hb3 z1; have y2 := up_cell hb3 z2; have y3 := up_cell hb3 z3; have y4 := up_cell hb3 z4))
    go_ret2
    exact ⟨rfl, (by repeat' (first | (with_reducible exact up_refl _) | (with_reducible assumption) | (with_reducible refine up_alloc ?_ _) | (with_reducible refine up_drewN ?_ _) | (with_reducible refine up_drew ?_) | (with_reducible refine up_set ?_ (by first | (simp; done) | (simp; omega) | omega) _) | (refine up_trans ?_ (by with_reducible assumption))))⟩
  · clear hS hT
    simp only [if_true] at hE
    go_enter Try.func31, Try.ntmps31
    go_wp2_with (first | (go_at_call 25; (with_reducible refine (unhide hC _ (by repeat' (first | (with_reducible exact up_refl _) | (with_reducible assumption) | (with_reducible refine up_alloc ?_ _) | (with_reducible refine up_drewN ?_ _) | (with_reducible refine up_drew ?_) | (with_reducible refine up_set ?_ (by first | (simp; done) | (simp; omega) | omega) _) | (refine up_trans ?_ (by with_reducible assumption))))).mono ?_); rintro e w1 ⟨rfl, hb1⟩; have k0_0 : w1.cell? ⟨w.heap.size, 0, none⟩ = some (.int .i64 h0) := up_cell hb1 (by first | (with_reducible assumption) | (refine alloc_cell _ ?_; with_reducible assumption) | go_cell); have k0_1 : w1.cell? ⟨w.heap.size, 1, none⟩ = some (.int .i64 h1) := up_cell hb1 (by first | (with_reducible assumption) | (refine alloc_cell _ ?_; with_reducible assumption) | go_cell); have k0_2 : w1.cell? ⟨w.heap.size, 2, none⟩ = some (.int .i64 h2) := up_cell hb1 (by first | (with_reducible assumption) | (refine alloc_cell _ ?_; with_reducible assumption) | go_cell); have k1_0 : w1.cell? ⟨w.heap.size + 1, 0, none⟩ = some (.int .i64 0) := up_cell hb1 (by first | (with_reducible assumption) | (refine alloc_cell _ ?_; with_reducible assumption) | go_cell); have k1_1 : w1.cell? ⟨w.heap.size + 1, 1, none⟩ = some (.int .i64 0) := up_cell hb1 (by first | (with_reducible assumption) | (refine alloc_cell _ ?_; with_reducible assumption) | go_cell)) | (go_at_call 71; (with_reducible refine (unhide hE _).mono ?_); rintro e w2 ⟨rfl, hb2⟩; have z0 := up_cell hb2 k0_0; have z1 := up_cell hb2 k0_1; have z2 := up_cell hb2 k0_2; have z3 := up_cell hb2 k1_0; have z4 := up_cell hb2 k1_1) | (go_at_call 67; (with_reducible refine (unhide hW _).mono ?_); rintro e w3 ⟨rfl, hb3⟩; have y0 := up_cell hb3 z0; have y1 := up_cell hb3 z1; have y2 := up_cell hb3 z2; have y3 := up_cell hb3 z3; have y4 := up_cell hb3 z4))
    go_ret2
    exact ⟨rfl, (by repeat' (first | (with_reducible exact up_refl _) | (with_reducible assumption) | (with_reducible refine up_alloc ?_ _) | (with_reducible refine up_drewN ?_ _) | (with_reducible refine up_drew ?_) | (with_reducible refine up_set ?_ (by first | (simp; done) | (simp; omega) | omega) _) | (refine up_trans ?_ (by with_reducible assumption))))⟩
  · have hS2 := hide (unhide hS rfl)
    have hT2 := hide (unhide hT rfl rfl rfl)
    clear hS hT
    simp only [if_true] at hE
    have go : ∀ (zx zy : Bool), (x == 0) = zx → (y == 0) = zy → (zx && zy) = false → Calls Try.prog 31 #[.slice A n cap, .agg #[.int .i64 h0, .int .i64 h1, .int .i64 h2], pt x y] w fun e w' => e = .returned (.tuple #[.int .i64 V, .int .i64 E]) ∧ Up w w' := by
      intro zx zy hzx hzy hz
      have hx0 : zx = false → ¬ x = 0 := by intro e h; subst h; simp at hzx; rw [e] at hzx; cases hzx
      have hy0 : zy = false → ¬ y = 0 := by intro e h; subst h; simp at hzy; rw [e] at hzy; cases hzy
      clear cz
      cases zx
      · have hx1 := hx0 rfl
        clear hx0 hy0 hzy hz
        go_enter Try.func31, Try.ntmps31
        go_upto_region 9 with (first | (go_at_call 25; (with_reducible refine (unhide hC _ (by repeat' (first | (with_reducible exact up_refl _) | (with_reducible assumption) | (with_reducible refine up_alloc ?_ _) | (with_reducible refine up_drewN ?_ _) | (with_reducible refine up_drew ?_) | (with_reducible refine up_set ?_ (by first | (simp; done) | (simp; omega) | omega) _) | (refine up_trans ?_ (by with_reducible assumption))))).mono ?_); rintro e w1 ⟨rfl, hb1⟩; have k0_0 : w1.cell? ⟨w.heap.size, 0, none⟩ = some (.int .i64 h0) := up_cell hb1 (by first | (with_reducible assumption) | (refine alloc_cell _ ?_; with_reducible assumption) | go_cell); have k0_1 : w1.cell? ⟨w.heap.size, 1, none⟩ = some (.int .i64 h1) := up_cell hb1 (by first | (with_reducible assumption) | (refine alloc_cell _ ?_; with_reducible assumption) | go_cell); have k0_2 : w1.cell? ⟨w.heap.size, 2, none⟩ = some (.int .i64 h2) := up_cell hb1 (by first | (with_reducible assumption) | (refine alloc_cell _ ?_; with_reducible assumption) | go_cell); have k1_0 : w1.cell? ⟨w.heap.size + 1, 0, none⟩ = some (.int .i64 x) := up_cell hb1 (by first | (with_reducible assumption) | (refine alloc_cell _ ?_; with_reducible assumption) | go_cell); have k1_1 : w1.cell? ⟨w.heap.size + 1, 1, none⟩ = some (.int .i64 y) := up_cell hb1 (by first | (with_reducible assumption) | (refine alloc_cell _ ?_; with_reducible assumption) | go_cell)) | (go_at_call 71; (with_reducible refine (unhide hE _).mono ?_); rintro e w2 ⟨rfl, hb2⟩; have z0 := up_cell hb2 k0_0; have z1 := up_cell hb2 k0_1; have z2 := up_cell hb2 k0_2; have z3 := up_cell hb2 k1_0; have z4 := up_cell hb2 k1_1) | (go_at_call 67; (with_reducible refine (unhide hW _).mono ?_); rintro e w3 ⟨rfl, hb3⟩; have y0 := up_cell hb3 z0; have y1 := up_cell hb3 z1; have y2 := up_cell hb3 z2; have y3 := up_cell hb3 z3; have y4 := up_cell hb3 z4))
        have u3 : Up w w3 := (by repeat' (first | (with_reducible exact up_refl _) | (with_reducible assumption) | (with_reducible refine up_alloc ?_ _) | (with_reducible refine up_drewN ?_ _) | (with_reducible refine up_drew ?_) | (with_reducible refine up_set ?_ (by first | (simp; done) | (simp; omega) | omega) _) | (refine up_trans ?_ (by with_reducible assumption))))
        have m0 : ∀ p : UpW w3, p.v.cell? ⟨w.heap.size, 0, none⟩ = some (.int .i64 h0) := fun p => up_cell p.up y0
        have m1 : ∀ p : UpW w3, p.v.cell? ⟨w.heap.size, 1, none⟩ = some (.int .i64 h1) := fun p => up_cell p.up y1
        have m2 : ∀ p : UpW w3, p.v.cell? ⟨w.heap.size, 2, none⟩ = some (.int .i64 h2) := fun p => up_cell p.up y2
        have m3 : ∀ p : UpW w3, p.v.cell? ⟨w.heap.size + 1, 0, none⟩ = some (.int .i64 x) := fun p => up_cell p.up y3
        have m4 : ∀ p : UpW w3, p.v.cell? ⟨w.heap.size + 1, 1, none⟩ = some (.int .i64 y) := fun p => up_cell p.up y4
        have mu : ∀ p : UpW w3, Up w p.v := fun p => up_trans u3 p.up
        clear k0_0 k0_1 k0_2 k1_0 k1_1 z0 z1 z2 z3 z4 y0 y1 y2 y3 y4 hb1 hb2 hb3
        refine wp_upq (by kernel_rfl) (by kernel_rfl) ?_; (repeat (go_big_quiet_step ((first | (go_at_call 47; exact upq (unhide hS2 _ (mu _))) | (go_at_call 72; exact upq (unhide hT2 _)))))); refine wpQuiet_nil ?_; intro _ hw'; obtain ⟨pq, hw''⟩ := hw'; subst hw''; have hpq := pq.up
        rcases ck with ⟨rfl, rfl, rfl⟩ | ⟨k1, rfl, rfl⟩
        · go_wp2_with fail
          go_ret2
          exact ⟨rfl, up_trans u3 hpq⟩
        · have k2 : (0 : Int) ≤ (K : Int) - 1 := by omega
          go_wp2_with fail
          go_ret2
          exact ⟨rfl, up_trans u3 hpq⟩
      · cases zy
        · have hy1 := hy0 rfl
          have hx1 : x = 0 := by simpa using hzx
          subst hx1
          clear hx0 hy0 hzx hz
          go_enter Try.func31, Try.ntmps31
          go_upto_region 9 with (first | (go_at_call 25; (with_reducible refine (unhide hC _ (by repeat' (first | (with_reducible exact up_refl _) | (with_reducible assumption) | (with_reducible refine up_alloc ?_ _) | (with_reducible refine up_drewN ?_ _) | (with_reducible refine up_drew ?_) | (with_reducible refine up_set ?_ (by first | (simp; done) | (simp; omega) | omega) _) | (refine up_trans ?_ (by with_reducible assumption))))).mono ?_); rintro e w1 ⟨rfl, hb1⟩; have k0_0 : w1.cell? ⟨w.heap.size, 0, none⟩ = some (.int .i64 h0) := up_cell hb1 (by first | (with_reducible assumption) | (refine alloc_cell _ ?_; with_reducible assumption) | go_cell); have k0_1 : w1.cell? ⟨w.heap.size, 1, none⟩ = some (.int .i64 h1) := up_cell hb1 (by first | (with_reducible assumption) | (refine alloc_cell _ ?_; with_reducible assumption) | go_cell); have k0_2 : w1.cell? ⟨w.heap.size, 2, none⟩ = some (.int .i64 h2) := up_cell hb1 (by first | (with_reducible assumption) | (refine alloc_cell _ ?_; with_reducible assumption) | go_cell); have k1_0 : w1.cell? ⟨w.heap.size + 1, 0, none⟩ = some (.int .i64 0) := up_cell hb1 (by first | (with_reducible assumption) | (refine alloc_cell _ ?_; with_reducible assumption) | go_cell); have k1_1 : w1.cell? ⟨w.heap.size + 1, 1, none⟩ = some (.int .i64 y) := up_cell hb1 (by first | (with_reducible assumption) | (refine alloc_cell _ ?_; with_reducible assumption) | go_cell)) | (go_at_call 71; (with_reducible refine (unhide hE _).mono ?_); rintro e w2 ⟨rfl, hb2⟩; have z0 := up_cell hb2 k0_0; have z1 := up_cell hb2 k0_1; have z2 := up_cell hb2 k0_2; have z3 := up_cell hb2 k1_0; have z4 := up_cell hb2 k1_1) | (go_at_call 67; (with_reducible refine (unhide hW _).mono ?_); rintro e w3 ⟨rfl, hb3⟩; have y0 := up_cell hb3 z0; have y1 := up_cell hb3 z1; have y2 := up_cell hb3 z2; have y3 := up_cell hb3 z3; have y4 := up_cell hb3 z4))
          have u3 : Up w w3 := (by repeat' (first | (with_reducible exact up_refl _) | (with_reducible assumption) | (with_reducible refine up_alloc ?_ _) | (with_reducible refine up_drewN ?_ _) | (with_reducible refine up_drew ?_) | (with_reducible refine up_set ?_ (by first | (simp; done) | (simp; omega) | omega) _) | (refine up_trans ?_ (by with_reducible assumption))))
          have m0 : ∀ p : UpW w3, p.v.cell? ⟨w.heap.size, 0, none⟩ = some (.int .i64 h0) := fun p => up_cell p.up y0
          have m1 : ∀ p : UpW w3, p.v.cell? ⟨w.heap.size, 1, none⟩ = some (.int .i64 h1) := fun p => up_cell p.up y1
          have m2 : ∀ p : UpW w3, p.v.cell? ⟨w.heap.size, 2, none⟩ = some (.int .i64 h2) := fun p => up_cell p.up y2
          have m3 : ∀ p : UpW w3, p.v.cell? ⟨w.heap.size + 1, 0, none⟩ = some (.int .i64 0) := fun p => up_cell p.up y3
          have m4 : ∀ p : UpW w3, p.v.cell? ⟨w.heap.size + 1, 1, none⟩ = some (.int .i64 y) := fun p => up_cell p.up y4
          have mu : ∀ p : UpW w3, Up w p.v := fun p => up_trans u3 p.up
          clear k0_0 k0_1 k0_2 k1_0 k1_1 z0 z1 z2 z3 z4 y0 y1 y2 y3 y4 hb1 hb2 hb3
          refine wp_upq (by kernel_rfl) (by kernel_rfl) ?_; (repeat (go_big_quiet_step ((first | (go_at_call 47; exact upq (unhide hS2 _ (mu _))) | (go_at_call 72; exact upq (unhide hT2 _)))))); refine wpQuiet_nil ?_; intro _ hw'; obtain ⟨pq, hw''⟩ := hw'; subst hw''; have hpq := pq.up
          rcases ck with ⟨rfl, rfl, rfl⟩ | ⟨k1, rfl, rfl⟩
          · go_wp2_with fail
            go_ret2
            exact ⟨rfl, up_trans u3 hpq⟩
          · have k2 : (0 : Int) ≤ (K : Int) - 1 := by omega
            go_wp2_with fail
            go_ret2
            exact ⟨rfl, up_trans u3 hpq⟩
        · cases hz
    refine go (x == 0) (y == 0) rfl rfl ?_
    by_cases hx : x = 0
    · subst hx
      have : ¬ y = 0 := fun e => cz ⟨rfl, e⟩
      simp; exact this
    · simp [hx]
end Go.Proofs.Ytgjcpgmnflpdkaa
