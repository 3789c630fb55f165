/- Names: what words.IsName and the document's Named return, for all texts. -/
import Derived.Test.YtdehnokcjnbjoaaGreatPt
import Derived.Laws.RangeAny
import Derived.Laws.Strings
import Derived.LoopTactic
namespace Go.Proofs.YtdehnokcjnbjoaaGreat
open Go.RowKit Go.Proofs.Gn
/-- Is a byte one of a name's characters? -/
def nbB (n : Nat) : Bool := (decide (97 ≤ n) && decide (n ≤ 122)) || (decide (48 ≤ n) && decide (n ≤ 57))
/-- Are all bytes from k on, up to n, those of names? -/
def nmAll (s : ByteArray) : Prop := ∀ i (h : i < s.size), nbB (s[i]'h).toNat = true
instance (s : ByteArray) : Decidable (nmAll s) := Nat.decidableBallLT s.size fun i h => nbB (s[i]'h).toNat = true
/-- Is a text a name? -/
def nmS (s : ByteArray) : Bool := decide (nmAll s) && (decide (1 ≤ s.size) && decide (s.size ≤ 20))
theorem nmS_bad {s : ByteArray} {i : Nat} (h : i < s.size) (hb : nbB (s[i]'h).toNat = false) : nmS s = false := by
  have : ¬ nmAll s := fun ha => by rw [ha i h] at hb; cases hb
  simp [nmS, this]
theorem nmS_all {s : ByteArray} (h : nmAll s) : nmS s = (decide (1 ≤ s.size) && decide (s.size ≤ 20)) := by simp [nmS, h]
theorem up_iter {W w : World} (h : Up W w) (s : ByteArray) (p : Nat) : Up W (w.iter s p) := up_alloc h _
theorem nb_lt {n : Nat} (h : nbB n = true) : n < 128 := by
  simp only [nbB, Bool.or_eq_true, Bool.and_eq_true, decide_eq_true_eq] at h
  omega
theorem nb_cases (n : Nat) : nbB n = true ∧ (¬ (n : Int) < 97 ∧ ¬ 122 < (n : Int) ∨ (n : Int) < 97 ∧ ¬ (n : Int) < 48 ∧ ¬ 57 < (n : Int)) ∨
    nbB n = false ∧ ((n : Int) < 97 ∧ (n : Int) < 48 ∨ (n : Int) < 97 ∧ ¬ (n : Int) < 48 ∧ 57 < (n : Int) ∨ ¬ (n : Int) < 97 ∧ 122 < (n : Int)) := by
  unfold nbB
  by_cases h1 : 97 ≤ n <;> by_cases h2 : n ≤ 122 <;> by_cases h3 : 48 ≤ n <;> by_cases h4 : n ≤ 57 <;> simp [h1, h2, h3, h4] <;> omega
theorem nm_next {s : ByteArray} {pos : Nat} (hp : pos < s.size) (ha : ∀ i (h : i < s.size), i < pos → nbB (s[i]'h).toNat = true) (hb : nbB (s[pos]'hp).toNat = true) :
    ∀ i (h : i < s.size), i < pos + 1 → nbB (s[i]'h).toNat = true := fun i h hi => by
  by_cases hip : i = pos
  · subst hip; exact hb
  · exact ha i h (by omega)
set_option maxRecDepth 100000 in
set_option maxHeartbeats 4000000 in
theorem p_IsName (s : ByteArray) (w : World) :
    Calls Tryz.prog 57 #[.string s] w fun e w' => e = .returned (.bool (nmS s)) ∧ Up w w' := by
  go_enter Tryz.func57, Tryz.ntmps57
  go_wp2
  go_loopw [] (fun wr => ∃ pos : Nat, wr = w.iter s pos ∧ pos ≤ s.size ∧ ∀ i (h : i < s.size), i < pos → nbB (s[i]'h).toNat = true) (fun wr => s.size - wr.iterPos w.heap.size)
  case atStart => exact ⟨0, rfl, by omega, fun i h hi => by omega⟩
  case round =>
    obtain ⟨pos, rfl, hle, ha⟩ := hrel
    have HA := hide ha
    clear ha
    by_cases hp : pos < s.size
    · obtain ⟨n, hn⟩ : ∃ n, (s[pos]'hp).toNat = n := ⟨_, rfl⟩
      have HN := hide hn
      by_cases h7 : n < 128
      · have hnx : ∀ ty, (Instr.next (.pointer (some ⟨w.heap.size, 0, none⟩)) true ty).run Tryz.prog (w.iter s pos) = _ := fun ty => run_next_ascii w s pos ty hp (by rw [hn]; exact h7)
        rw [hn] at hnx
        clear hn h7
        rcases nb_cases n with ⟨hb, ⟨h1, h2⟩ | ⟨h1, h2, h3⟩⟩ | ⟨hb, ⟨h1, h2⟩ | ⟨h1, h2, h3⟩ | ⟨h1, h2⟩⟩
        · go_wp2
          go_roundw
          case rel => exact ⟨pos + 1, rfl, by omega, nm_next hp (unhide HA) (by rw [unhide HN]; exact hb)⟩
          case measure => simp; omega
        · go_wp2
          go_roundw
          case rel => exact ⟨pos + 1, rfl, by omega, nm_next hp (unhide HA) (by rw [unhide HN]; exact hb)⟩
          case measure => simp; omega
        · go_wp2
          go_ret
          exact ⟨by rw [nmS_bad hp (by rw [unhide HN]; exact hb)]; rfl, up_iter (up_refl _) _ _⟩
        · go_wp2
          go_ret
          exact ⟨by rw [nmS_bad hp (by rw [unhide HN]; exact hb)]; rfl, up_iter (up_refl _) _ _⟩
        · go_wp2
          go_ret
          exact ⟨by rw [nmS_bad hp (by rw [unhide HN]; exact hb)]; rfl, up_iter (up_refl _) _ _⟩
      · have hnx : ∀ ty, (Instr.next (.pointer (some ⟨w.heap.size, 0, none⟩)) true ty).run Tryz.prog (w.iter s pos) = _ := fun ty => run_next_any w s pos ty hp
        obtain ⟨hd, -⟩ := decode_high s pos hp (by rw [hn]; omega)
        obtain ⟨c, hc⟩ : ∃ c, (Utf8.decode s pos).1 = c := ⟨_, rfl⟩
        rw [hc] at hnx hd
        clear hc hn
        have h1 : ¬ (c : Int) < 97 := by omega
        have h2 : 122 < (c : Int) := by omega
        have HB := hide (show nbB n = false from by
          cases hb : nbB n
          · rfl
          · exact absurd (nb_lt hb) h7)
        go_wp2
        go_ret
        exact ⟨by rw [nmS_bad hp (by rw [unhide HN]; exact unhide HB)]; rfl, up_iter (up_refl _) _ _⟩
    · have hnx : ∀ ty, (Instr.next (.pointer (some ⟨w.heap.size, 0, none⟩)) true ty).run Tryz.prog (w.iter s pos) = _ := fun ty => run_next_end w s pos ty hp
      have HS := hide (nmS_all (s := s) fun i h => unhide HA i h (by omega))
      clear HA
      by_cases h1 : 1 ≤ (s.size : Int)
      · by_cases h2 : (s.size : Int) ≤ 20
        · go_wp2
          go_ret
          exact ⟨by rw [unhide HS, decide_eq_true (show 1 ≤ s.size by omega), decide_eq_true (show s.size ≤ 20 by omega)]; rfl, up_iter (up_refl _) _ _⟩
        · go_wp2
          go_ret
          exact ⟨by rw [unhide HS, decide_eq_false (show ¬ s.size ≤ 20 by omega), Bool.and_false]; rfl, up_iter (up_refl _) _ _⟩
      · go_wp2
        go_ret
        exact ⟨by rw [unhide HS, decide_eq_false (show ¬ 1 ≤ s.size by omega), Bool.false_and]; rfl, up_iter (up_refl _) _ _⟩
set_option maxRecDepth 100000 in
set_option maxHeartbeats 4000000 in
theorem r_Named (s : ByteArray) (w : World) :
    Calls Tryz.prog 62 #[.string s] w fun e w' => e = .returned (.bool (nmS s)) ∧ Up w w' := by
  by_cases g1 : (s.size : Int) < 1
  · have hS := hide (show nmS s = false by unfold nmS; rw [decide_eq_false (show ¬ 1 ≤ s.size by omega)]; simp)
    go_enter Tryz.func62, Tryz.ntmps62
    go_wp2
    go_ret
    exact ⟨by rw [unhide hS]; rfl, up_refl _⟩
  by_cases g2 : 20 < (s.size : Int)
  · have hS := hide (show nmS s = false by unfold nmS; rw [decide_eq_false (show ¬ s.size ≤ 20 by omega)]; simp)
    go_enter Tryz.func62, Tryz.ntmps62
    go_wp2
    go_ret
    exact ⟨by rw [unhide hS]; rfl, up_refl _⟩
  have HG := hide (⟨by omega, by omega⟩ : 1 ≤ s.size ∧ s.size ≤ 20)
  go_enter Tryz.func62, Tryz.ntmps62
  go_wp2
  go_loopw [3] (fun i wr => ∃ pos : Nat, i = .int .i64 pos ∧ wr = w ∧ pos ≤ s.size ∧ ∀ i (h : i < s.size), i < pos → nbB (s[i]'h).toNat = true) (fun i _ => s.size - (intOf i).toNat)
  case atStart => exact ⟨0, rfl, rfl, by omega, fun i h hi => by omega⟩
  case round =>
    obtain ⟨pos, rfl, rfl, hle, ha⟩ := hrel
    have HA := hide ha
    clear ha
    by_cases hp : pos < s.size
    · obtain ⟨n, hn⟩ : ∃ n, (s[pos]'hp).toNat = n := ⟨_, rfl⟩
      have HN := hide hn
      have hp' : (pos : Int) < s.size := by omega
      have hp0 : 0 ≤ (pos : Int) := by omega
      have HB := hide (show (s.size : Int) ≤ 20 by omega)
      have hw : IntKind.i64.wrap (↑pos + 1) = ((pos + 1 : Nat) : Int) := by rw [IntWalk.i64_in _ ⟨by omega, by omega⟩]; omega
      clear g1 g2
      rcases nb_cases n with ⟨hb, ⟨h1, h2⟩ | ⟨h1, h2, h3⟩⟩ | ⟨hb, ⟨h1, h2⟩ | ⟨h1, h2, h3⟩ | ⟨h1, h2⟩⟩
      · have e1 : 97 ≤ (n : Int) := by omega
        have e2 : (n : Int) ≤ 122 := by omega
        clear h1 h2
        go_wp2
        go_roundw
        case rel => exact ⟨pos + 1, by first | rfl | trivial, by first | rfl | trivial, by omega, nm_next hp (unhide HA) (by rw [unhide HN]; exact hb)⟩
        case measure => simp [intOf]; omega
      · have e1 : ¬ 97 ≤ (n : Int) := by omega
        have e2 : 48 ≤ (n : Int) := by omega
        have e3 : (n : Int) ≤ 57 := by omega
        clear h1 h2 h3
        go_wp2
        go_roundw
        case rel => exact ⟨pos + 1, by first | rfl | trivial, by first | rfl | trivial, by omega, nm_next hp (unhide HA) (by rw [unhide HN]; exact hb)⟩
        case measure => simp [intOf]; omega
      · have e1 : ¬ 97 ≤ (n : Int) := by omega
        have e2 : ¬ 48 ≤ (n : Int) := by omega
        clear h1 h2
        go_wp2
        go_ret
        exact ⟨by rw [nmS_bad hp (by rw [unhide HN]; exact hb)]; rfl, up_refl _⟩
      · have e1 : ¬ 97 ≤ (n : Int) := by omega
        have e2 : 48 ≤ (n : Int) := by omega
        have e3 : ¬ (n : Int) ≤ 57 := by omega
        clear h1 h2 h3
        go_wp2
        go_ret
        exact ⟨by rw [nmS_bad hp (by rw [unhide HN]; exact hb)]; rfl, up_refl _⟩
      · have e1 : 97 ≤ (n : Int) := by omega
        have e2 : ¬ (n : Int) ≤ 122 := by omega
        have e3 : 48 ≤ (n : Int) := by omega
        have e4 : ¬ (n : Int) ≤ 57 := by omega
        clear h1 h2
        go_wp2
        go_ret
        exact ⟨by rw [nmS_bad hp (by rw [unhide HN]; exact hb)]; rfl, up_refl _⟩
    · have HS := hide (nmS_all (s := s) fun i h => unhide HA i h (by omega))
      clear HA
      have h1 : ¬ (pos : Int) < s.size := by omega
      go_wp2
      go_ret
      exact ⟨by rw [unhide HS, decide_eq_true (unhide HG).1, decide_eq_true (unhide HG).2]; rfl, up_refl _⟩
end Go.Proofs.YtdehnokcjnbjoaaGreat
