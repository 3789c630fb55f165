/- Two lists of eyes put together (slices.Concat). -/
import Derived.Test.YtdehnokcjnbjoaaLdW
import Derived.Test.YtdehnokcjnbjoaaShelfG
import Derived.Lib.AppendZerosOnto
import Derived.Deep.RegionLaw
namespace Go.Proofs.Ytdehnokcjnbjoaa
open Go.RowKit Go.Proofs.Gn
attribute [local go_sem] Oper.semAt_some
set_option linter.unusedVariables false
theorem cellsEy_append (a b : List Eye) : cellsEy (a ++ b) = cellsEy a ++ cellsEy b := by simp [cellsEy]
theorem p_GrowEy (n : Nat) (h0 : 0 < n) (hn : n ≤ 1000) (w : World) :
    Calls Try.prog 68 #[.slice none 0 0, .int .i64 n] w fun e w' => ∃ v, e = .returned v ∧ w'.ownsRow w.heap.size 78 4 v 0 [] ∧ Up w w' := by
  obtain ⟨i0', hi, hz0, hz1, hz2⟩ := info_parts info_ey
  have q := Any8.slices_Grow_grow Try.growEy i0' _ hi hz0 (by rw [hz1]; decide) none 0 0 n [] w (Nat.le_refl _) (by omega) (by rw [hz2]; omega) (by omega) (by simp) (fun _ => rfl) (fun a ha => by cases ha)
  refine q.mono ?_
  rintro e w' ⟨rfl, rfl⟩
  have hge := grownCap_ge w (0 + n) 0 (Try.growEy_ren.t 25)
  have hle := grownCap_le_maxLen w (0 + n) 0 (Try.growEy_ren.t 25) (by unfold maxLen; omega)
  generalize grownCap w (0 + n) 0 (Try.growEy_ren.t 25) = G at *
  refine ⟨_, rfl, World.ownsRow_made w.drew _ G (Nat.le_refl _) hle ?_, up_alloc (up_drew (up_refl _)) _⟩
  rw [Array.size_append, Array.size_append, size_zeroCells, size_zeroCells]
  show 0 + (0 + n - 0) * 4 + (G - (0 + n)) * 4 = G * 4
  omega
/-- How far the first loop has come. -/
def CyA (L1 N : Nat) (s3 s11 : Value) : Prop := (s11 = .int .i64 0 ∧ s3 = .int .i64 0) ∨ (s11 = .int .i64 1 ∧ s3 = .int .i64 L1) ∨ (s11 = .int .i64 2 ∧ s3 = .int .i64 N)
theorem run_append_none (w : World) (ty : TypeId) (b : Option Addr) (n c : Nat) (B : Option Addr) (c' : Nat) (h : n ≤ c) :
    (Builtin.append_ #[23, 23] ty #[.slice b n c, .slice B 0 c']).run Try.prog w = .ok (.slice b n c) w := by
  obtain ⟨i0', hi, hz0, hz1, hz2⟩ := info_parts info_ey
  cases b <;> cases B <;> simp [Builtin.append_, run_underlying Try.underlying23, sizeOf, typeInfo, hi, Builtin.lenOf, Builtin.firstCells, h, storeCells, loadCells, loadCellsFrom]
theorem ap_ey {wo W : World} {A : Option Addr} {p : List Eye} (c : Nat) (h : Eyes wo A p) (hu : Up wo W) (hL : p.length ≤ 100) {v : Value} {n : Nat} {xs : List Value} (hown : W.ownsRow wo.heap.size 78 4 v n xs) (hn : n ≤ 100) (ty : TypeId) :
    ∃ v' W', (Builtin.append_ #[23, 23] ty #[v, .slice A p.length c]).run Try.prog W = .ok v' W' ∧ W'.ownsRow wo.heap.size 78 4 v' (n + p.length) (xs ++ cellsEy p) ∧ Up wo W' := by
  by_cases h0 : p = []
  · subst h0
    obtain ⟨b, c0, rfl, hc⟩ : ∃ b c0, v = .slice b n c0 ∧ n ≤ c0 := by
      rcases hown.2 with ⟨h1, h2⟩ | ⟨g, cap, cur, h1, _, _, h2, _⟩
      · exact ⟨none, 0, by rw [h1, h2], by omega⟩
      · exact ⟨_, cap, h1, by omega⟩
    refine ⟨_, _, run_append_none W ty b n c0 A c hc, ?_, hu⟩
    simpa [cellsEy] using hown
  · obtain ⟨b, off, rfl, hc⟩ := h.resolve_left h0
    obtain ⟨i0', hi, hz0, hz1, hz2⟩ := info_parts info_ey
    have hN := eyes_cell (W := W) (b := b) (off := off) (ys := p) fun k hk => eyeAt_up (hc k hk) hu
    obtain ⟨v', w', hrun, h2, h3, _, _⟩ := run_append_own_at (P := Try.prog) W wo.heap.size 23 ty 78 i0' _ 4 32 Try.underlying23 hi hz0 hz1 hz2 rfl (by decide) v n xs hown ⟨b, off, none⟩ p.length c (cellsEy p) (cellsEy_len p) (fun j u hj => by rw [addr_addL]; exact hN j u hj) cellsEy_one (by unfold maxLen; omega) (by omega) hu.size
    exact ⟨v', w', hrun, h2, hu.grown h3 hu.size fun g hg => (hown.lt g hg).1⟩
theorem p_GrowE0 (w : World) :
    Calls Try.prog 68 #[.slice none 0 0, .int .i64 0] w fun e w' => e = .returned (.slice none 0 0) ∧ w = w' := by
  go_enter Try.func68, Try.ntmps68
  go_wp2
  go_ret
  exact ⟨rfl, rfl⟩
theorem p_GrowEA (n : Nat) (hn : n ≤ 1000) (w : World) :
    Calls Try.prog 68 #[.slice none 0 0, .int .i64 n] w fun e w' => ∃ v, e = .returned v ∧ w'.ownsRow w.heap.size 78 4 v 0 [] ∧ Up w w' := by
  by_cases h0 : 0 < n
  · exact p_GrowEy n h0 hn w
  · obtain rfl : n = 0 := by omega
    refine (p_GrowE0 w).mono ?_
    rintro e w' ⟨rfl, rfl⟩
    exact ⟨_, rfl, World.ownsRow_nil _ _ _ _, up_refl _⟩
/-- How far the second one has. -/
def CyB (B : Nat) (p1 p2 : List Eye) (L1 L2 : Nat) (s6 s27 : Value) (w : World) : Prop := (s27 = .int .i64 0 ∧ w.ownsRow B 78 4 s6 0 []) ∨ (s27 = .int .i64 1 ∧ w.ownsRow B 78 4 s6 L1 (cellsEy p1)) ∨ (s27 = .int .i64 2 ∧ w.ownsRow B 78 4 s6 (L1 + L2) (cellsEy (p1 ++ p2)))
set_option maxRecDepth 100000 in
set_option maxHeartbeats 8000000 in
theorem p_ConcatYA (g : Nat) (A1 A2 : Option Addr) (p1 p2 : List Eye) (c1 c2 : Nat) (w : World) (hg : Bx w g [.slice A1 p1.length c1, .slice A2 p2.length c2]) (h1 : Eyes w A1 p1) (h2 : Eyes w A2 p2) (n1 : p1.length ≤ 100) (n2 : p2.length ≤ 100) :
    Calls Try.prog 42 #[.slice (some ⟨g, 0, none⟩) 2 2] w fun e w' => (∃ v, e = .returned v ∧ w'.ownsRow w.heap.size 78 4 v (p1.length + p2.length) (cellsEy (p1 ++ p2))) ∧ Up w w' := by
  have HP1 := hide (fun W (hu : Up w W) v (ho : W.ownsRow w.heap.size 78 4 v 0 []) => ap_ey c1 h1 hu n1 ho (by omega) 23)
  have HP2 := hide (fun W (hu : Up w W) v (ho : W.ownsRow w.heap.size 78 4 v p1.length (cellsEy p1)) => ap_ey c2 h2 hu n2 ho n1 23)
  have HG := hide hg
  have HGr := hide (fun n hn W => p_GrowEA n hn W)
  obtain ⟨L1, hL1⟩ : ∃ n, p1.length = n := ⟨_, rfl⟩
  obtain ⟨L2, hL2⟩ : ∃ n, p2.length = n := ⟨_, rfl⟩
  rw [hL1] at n1 HG HP1 HP2 ⊢
  rw [hL2] at n2 HG HP2 ⊢
  clear hL1 hL2 h1 h2 hg
  obtain ⟨N, hN⟩ : ∃ N, L1 + L2 = N := ⟨_, rfl⟩
  have hNb : N ≤ 200 := by omega
  have hNi : (L1 : Int) + (L2 : Int) = (N : Int) := by omega
  have w1 : IntKind.i64.wrap ((L1 : Int) + (L2 : Int)) = (N : Int) := by rw [hNi]; exact IntWalk.i64_in _ ⟨by omega, by omega⟩
  clear hN hNi
  have c0 := (unhide HG 0 _ rfl).1
  have c1' := (unhide HG 1 _ rfl).1
  go_enter Try.func42, Try.ntmps42
  go_upto_region 3 with fail
  go_loopw [3, 11] (fun s3 s11 wr => CyA L1 N s3 s11 ∧ wr = w) (fun _ s11 _ => 2 - (intOf s11).toNat)
  case atStart => exact ⟨.inl ⟨rfl, rfl⟩, rfl⟩
  case round =>
    obtain ⟨hA, rfl⟩ := hrel
    rcases hA with ⟨rfl, rfl⟩ | ⟨rfl, rfl⟩ | ⟨rfl, rfl⟩
    · go_wp2_with fail
      go_roundw
      case rel => exact ⟨.inr (.inl ⟨rfl, by first | rfl | go_num⟩), by trivial⟩
      case measure => simp [intOf]
    · go_wp2_with fail
      go_roundw
      case rel => exact ⟨.inr (.inr ⟨rfl, by first | rfl | go_num⟩), by trivial⟩
      case measure => simp [intOf]
    · have hnn : ¬ (N : Int) < 0 := by omega
      clear c0 c1' w1
      go_wp2_with (go_at_call 68; (with_reducible refine (unhide HGr N (by omega) _).mono ?_); rintro e w2 ⟨v, rfl, ho, hu⟩; have HO := hide ho; have HU := hide hu; clear ho hu)
      obtain ⟨wo, rfl⟩ : ∃ wo, wo = wr := ⟨_, rfl⟩
      go_loopw [6, 27] (fun s6 s27 wx => CyB wo.heap.size p1 p2 L1 L2 s6 s27 wx ∧ Up wo wx) (fun _ s27 _ => 2 - (intOf s27).toNat)
      case atStart => exact ⟨.inl ⟨rfl, unhide HO⟩, unhide HU⟩
      case round =>
        obtain ⟨hB, hux⟩ := hrel
        clear HO HU
        have d0 := up_cell hux (unhide HG 0 _ rfl).1
        have d1 := up_cell hux (unhide HG 1 _ rfl).1
        rcases hB with ⟨rfl, ho⟩ | ⟨rfl, ho⟩ | ⟨rfl, ho⟩
        · obtain ⟨v', w7, hrun, R1, R2⟩ := unhide HP1 _ hux _ ho
          rw [Nat.zero_add, List.nil_append] at R1
          have HR := hide hrun
          have R1 := hide R1
          have R2 := hide R2
          clear ho hux hrun
          go_wp2_with (at_builtin; refine Lib.wpList_append_run _ rfl _ _ _ _ rfl _ _ rfl rfl _ _ (unhide HR) ?_)
          go_roundw
          case rel => exact ⟨.inr (.inl ⟨rfl, unhide R1⟩), unhide R2⟩
          case measure => simp [intOf]
        · obtain ⟨v', w7, hrun, R1, R2⟩ := unhide HP2 _ hux _ ho
          rw [← cellsEy_append] at R1
          have HR := hide hrun
          have R1 := hide R1
          have R2 := hide R2
          clear ho hux hrun
          go_wp2_with (at_builtin; refine Lib.wpList_append_run _ rfl _ _ _ _ rfl _ _ rfl rfl _ _ (unhide HR) ?_)
          go_roundw
          case rel => exact ⟨.inr (.inr ⟨rfl, unhide R1⟩), unhide R2⟩
          case measure => simp [intOf]
        · have HO := hide ho
          have HU := hide hux
          clear ho hux d0 d1
          go_wp2_with fail
          go_ret
          exact ⟨⟨_, rfl, unhide HO⟩, unhide HU⟩
end Go.Proofs.Ytdehnokcjnbjoaa
