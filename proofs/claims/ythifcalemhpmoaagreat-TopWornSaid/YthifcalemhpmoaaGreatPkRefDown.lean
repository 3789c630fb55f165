/- Products divided, bit by bit: the document's own answers. A region of open order inside a fence: all operations but a late one stay in a class of worlds; the late one, and what waits for it, come behind: walked once. Lines of influence: their effects. Bridges and trains: how they lie in memory; small contracts of package bridge. -/
import Derived.Test.YthifcalemhpmoaaGreatPkLateU
import Derived.Deep.RegionLaw
import Derived.OwnWalk
import Derived.Test.YthifcalemhpmoaaGreatPkKp
import Derived.Deep.Cut
import Derived.Deep.DeepCutAuto
import Derived.Test.YthifcalemhpmoaaGreatPkLever
namespace Go.Proofs.YthifcalemhpmoaaGreat
open Go.RowKit Go.Proofs.Gn
theorem at_wpB {c : Code} {Q : Exit → Act → World → Prop} {a : Act} {w : World} (h : ∀ W, W = w → Code.wp Tryz.prog c Q a W) : Code.wp Tryz.prog c Q a w := h w rfl
/-- The slice at A holds these numbers. -/
def I6 (w : World) (A : Option Addr) (gs : List Int) : Prop := gs = [] ∨ ∃ b off, A = some ⟨b, off, none⟩ ∧ ∀ k (h : k < gs.length), w.cell? ⟨b, off + k, none⟩ = some (.int .i64 gs[k])
theorem i6_up {w w' : World} {A : Option Addr} {gs : List Int} (h : I6 w A gs) (hu : Up w w') : I6 w' A gs := by
  rcases h with h | ⟨b, off, rfl, hc⟩
  · exact .inl h
  · exact .inr ⟨b, off, rfl, fun k hk => up_cell hu (hc k hk)⟩
/-- The slice at A holds this train: how far behind, and the load, of each axle. -/
def Frs (w : World) (A : Option Addr) (ts : List (Int × Int)) : Prop := ts = [] ∨ ∃ b off, A = some ⟨b, off, none⟩ ∧ ∀ k (h : k < ts.length), w.cell? ⟨b, off + k * 2, none⟩ = some (.int .i64 ts[k].1) ∧ w.cell? ⟨b, off + k * 2 + 1, none⟩ = some (.int .i64 ts[k].2)
theorem frs_up {w w' : World} {A : Option Addr} {ts : List (Int × Int)} (h : Frs w A ts) (hu : Up w w') : Frs w' A ts := by
  rcases h with h | ⟨b, off, rfl, hc⟩
  · exact .inl h
  · exact .inr ⟨b, off, rfl, fun k hk => ⟨up_cell hu (hc k hk).1, up_cell hu (hc k hk).2⟩⟩
def win6 (n lo hi : Int) : Bool := decide (lo ≤ n ∧ n ≤ hi)
theorem win6_yes {n lo hi : Int} (h : win6 n lo hi = true) : lo ≤ n ∧ n ≤ hi := by simpa [win6] using h
theorem win6_mk {n lo hi : Int} (h : lo ≤ n ∧ n ≤ hi) : win6 n lo hi = true := by simpa [win6] using h
theorem p_w64 (n lo hi : Int) (w : World) : Calls Tryz.prog 34 #[.int .i64 n, .int .i64 lo, .int .i64 hi] w fun e w' => e = .returned (.bool (win6 n lo hi)) ∧ w = w' := by
  by_cases h1 : lo ≤ n
  · by_cases h2 : n ≤ hi
    · rw [win6_mk ⟨h1, h2⟩]
      go_enter Tryz.func34, Tryz.ntmps34
      go_wp2
      go_ret
      exact ⟨by first | rfl | (simp [h1, h2]; done), rfl⟩
    · have e : win6 n lo hi = false := by simp [win6, h2]
      rw [e]
      have d2 : decide (n ≤ hi) = false := decide_eq_false h2
      go_enter Tryz.func34, Tryz.ntmps34
      go_wp2
      go_ret
      exact ⟨by first | rfl | (simp [h1, h2]; done), rfl⟩
  · have e : win6 n lo hi = false := by simp [win6, h1]
    rw [e]
    have d1 : decide (lo ≤ n) = false := decide_eq_false h1
    go_enter Tryz.func34, Tryz.ntmps34
    go_wp2
    go_ret
    exact ⟨by first | rfl | (simp [h1]; done), rfl⟩
theorem p_wI (n lo hi : Int) (w : World) : Calls Tryz.prog 71 #[.int .i64 n, .int .i64 lo, .int .i64 hi] w fun e w' => e = .returned (.bool (win6 n lo hi)) ∧ w = w' := by
  by_cases h1 : lo ≤ n
  · by_cases h2 : n ≤ hi
    · rw [win6_mk ⟨h1, h2⟩]
      go_enter Tryz.func71, Tryz.ntmps71
      go_wp2
      go_ret
      exact ⟨by first | rfl | (simp [h1, h2]; done), rfl⟩
    · have e : win6 n lo hi = false := by simp [win6, h2]
      rw [e]
      have d2 : decide (n ≤ hi) = false := decide_eq_false h2
      go_enter Tryz.func71, Tryz.ntmps71
      go_wp2
      go_ret
      exact ⟨by first | rfl | (simp [h1, h2]; done), rfl⟩
  · have e : win6 n lo hi = false := by simp [win6, h1]
    rw [e]
    have d1 : decide (lo ≤ n) = false := decide_eq_false h1
    go_enter Tryz.func71, Tryz.ntmps71
    go_wp2
    go_ret
    exact ⟨by first | rfl | (simp [h1]; done), rfl⟩
/-- The first error that is one. -/
def orF : List Int → Int
  | [] => 0
  | x :: xs => if x = 0 then orF xs else x
theorem orF_step {l : List Int} {k : Nat} (h : k < l.length) : orF (l.drop k) = if l[k] = 0 then orF (l.drop (k + 1)) else l[k] := by
  rw [List.drop_eq_getElem_cons h]; rfl
set_option maxRecDepth 100000 in
set_option maxHeartbeats 4000000 in
theorem p_Or (A : Option Addr) (xs : List Int) (cap : Nat) (w : World) (h : I6 w A xs) (hn : xs.length ≤ 9223372036854775807) :
    Calls Tryz.prog 31 #[.slice A xs.length cap] w fun e w' => e = .returned (.int .i64 (orF xs)) ∧ Up w w' := by
  have HI := hide h
  have HS := hide (fun k (h : k < xs.length) => orF_step h)
  have HD := hide (fun k => (List.drop_eq_nil_iff.2 : xs.length ≤ k → xs.drop k = []))
  have h00 : orF (xs.drop 0) = orF xs := by rw [List.drop_zero]
  obtain ⟨V, hV⟩ : ∃ V, orF xs = V := ⟨_, rfl⟩
  rw [hV] at h00 ⊢
  have H0 := hide h00
  clear h h00 hV
  obtain ⟨n, hN⟩ : ∃ n, xs.length = n := ⟨_, rfl⟩
  have HN := hide hN
  rw [hN] at hn ⊢
  clear hN
  go_enter Tryz.func31, Tryz.ntmps31
  go_wp2_with fail
  go_loopw [8] (fun s8 wr => ∃ k : Nat, k ≤ n ∧ s8 = .int .i64 k ∧ Hid (orF (xs.drop k) = V) ∧ Up w wr) (fun s8 _ => n - (intOf s8).toNat)
  case atStart => exact ⟨0, by omega, rfl, H0, up_refl _⟩
  case round =>
    obtain ⟨k, hk, rfl, HT, hu⟩ := hrel
    by_cases hlt : k < n
    · have hl : k < xs.length := by rw [unhide HN]; exact hlt
      rcases i6_up (unhide HI) hu with hx | ⟨b, off, rfl, hc⟩
      · rw [hx] at hl; simp at hl
      have c0 := hc k hl
      have st := (unhide HS k hl).symm.trans (unhide HT)
      generalize xs[k] = x at *
      have hwk : IntKind.i64.wrap ((k : Int) + 1) = (k : Int) + 1 := IntWalk.i64_in _ ⟨by omega, by omega⟩
      have i0 : (0 : Int) ≤ (k : Int) := by omega
      have i1 : (k : Int) < (n : Int) := by omega
      clear hc
      by_cases e : x = 0
      · rw [if_pos e] at st
        have HT2 := hide st
        subst e
        clear st HT
        go_wp2_with fail
        go_roundw
        case rel => exact ⟨k + 1, by omega, by first | rfl | trivial | go_num, HT2, (by repeat' (first | (with_reducible exact up_refl _) | (with_reducible assumption) | (with_reducible refine up_alloc ?_ _) | (with_reducible refine up_drewN ?_ _) | (with_reducible refine up_drew ?_) | (with_reducible refine up_set ?_ (by first | (simp; done) | (simp; omega) | omega) _) | (refine up_trans ?_ (by with_reducible assumption))))⟩
        case measure => simp [intOf]; omega
      · rw [if_neg e] at st
        subst st
        have e1 : (x == 0) = false := beq_false_of_ne e
        clear HT
        go_wp2_with fail
        go_ret
        exact ⟨rfl, (by repeat' (first | (with_reducible exact up_refl _) | (with_reducible assumption) | (with_reducible refine up_alloc ?_ _) | (with_reducible refine up_drewN ?_ _) | (with_reducible refine up_drew ?_) | (with_reducible refine up_set ?_ (by first | (simp; done) | (simp; omega) | omega) _) | (refine up_trans ?_ (by with_reducible assumption))))⟩
    · obtain rfl : k = n := by omega
      have hV : V = 0 := by rw [← unhide HT, unhide HD k (by rw [unhide HN]; exact Nat.le_refl _)]; rfl
      subst hV
      clear HT
      go_wp2_with fail
      go_ret
      exact ⟨rfl, hu⟩
/-- A train from some place on. -/
def tok : Int → List (Int × Int) → Bool
  | _, [] => true
  | a, t :: ts => win6 t.1 a 262144 && (win6 t.2 0 1048576 && tok t.1 ts)
/-- The error of a train. -/
def ctE (ts : List (Int × Int)) : Int := if win6 ts.length 1 64 then (if tok 0 ts && ((ts[0]?.map (·.1)).getD 0 == 0) then 0 else 2) else 6
theorem tok_step {a : Int} {ts : List (Int × Int)} {k : Nat} (h : k < ts.length) : tok a (ts.drop k) = (win6 ts[k].1 a 262144 && (win6 ts[k].2 0 1048576 && tok ts[k].1 (ts.drop (k + 1)))) := by
  rw [List.drop_eq_getElem_cons h]; rfl
set_option maxRecDepth 100000 in
set_option maxHeartbeats 8000000 in
theorem p_CheckTrain (A : Option Addr) (ts : List (Int × Int)) (cap : Nat) (w : World) (h : Frs w A ts) (hn : ts.length ≤ 9223372036854775807) :
    Calls Tryz.prog 33 #[.slice A ts.length cap] w fun e w' => e = .returned (.int .i64 (ctE ts)) ∧ Up w w' := by
  have HF := hide h
  have HS := hide (fun a k (h : k < ts.length) => tok_step (a := a) h)
  have HDr := hide (fun k => (List.drop_eq_nil_iff.2 : ts.length ≤ k → ts.drop k = []))
  have HW := hide (fun n lo hi W => p_wI n lo hi W)
  have HV := hide (fun n lo hi W => p_w64 n lo hi W)
  unfold ctE
  by_cases hz : win6 ts.length 1 64 = true
  · rw [if_pos hz]
    have hb := win6_yes hz
    have h0 : 0 < ts.length := by omega
    have h00 : tok 0 (ts.drop 0) = tok 0 ts := by rw [List.drop_zero]
    rw [List.getElem?_eq_getElem h0]
    simp only [Option.map_some, Option.getD_some]
    obtain ⟨V, hV⟩ : ∃ V, tok 0 ts = V := ⟨_, rfl⟩
    obtain ⟨f, hf⟩ : ∃ f, ts[0].1 = f := ⟨_, rfl⟩
    have Hf := hide hf
    rw [hV] at h00
    rw [hV]
    simp only [hf]
    obtain ⟨R, hR⟩ : ∃ R, (if (V && f == 0) = true then (0 : Int) else 2) = R := ⟨_, rfl⟩
    rw [hR]
    have HR := hide hR
    clear hR
    have H0 := hide h00
    have hw := fun W => p_wI ts.length 1 64 W
    rw [hz] at hw
    have HW1 := hide hw
    clear h h00 hV hf hw HW
    obtain ⟨n, hN⟩ : ∃ n, ts.length = n := ⟨_, rfl⟩
    have HN := hide hN
    rw [hN] at hn hb h0 HW1 ⊢
    clear hN hz
    go_enter Tryz.func33, Tryz.ntmps33
    go_wp2_with (go_at_call 71; (with_reducible refine (unhide HW1 _).mono ?_); rintro e w1 ⟨rfl, rfl⟩)
    go_loopw [3, 12] (fun s3 s12 wr => ∃ (k : Nat) (a : Int), k ≤ n ∧ s12 = .int .i64 k ∧ s3 = .int .i64 a ∧ Hid (tok a (ts.drop k) = V) ∧ Up w wr) (fun _ s12 _ => n - (intOf s12).toNat)
    case atStart => exact ⟨0, 0, by omega, rfl, rfl, H0, up_refl _⟩
    case round =>
      obtain ⟨k, a, hk, rfl, rfl, HT, hu⟩ := hrel
      by_cases hlt : k < n
      · have hl : k < ts.length := by rw [unhide HN]; exact hlt
        rcases frs_up (unhide HF) hu with hx | ⟨b, off, rfl, hc⟩
        · rw [hx] at hl; simp at hl
        obtain ⟨c0, c1⟩ := hc k hl
        have st := (unhide HS a k hl).symm.trans (unhide HT)
        generalize ts[k].1 = x at *
        generalize ts[k].2 = p at *
        have hwk : IntKind.i64.wrap ((k : Int) + 1) = (k : Int) + 1 := IntWalk.i64_in _ ⟨by omega, by omega⟩
        have i0 : (0 : Int) ≤ (k : Int) := by omega
        have i1 : (k : Int) < (n : Int) := by omega
        clear hc
        cases e1 : win6 x a 262144 with
        | false =>
          rw [e1, Bool.false_and] at st
          subst st
          have hr : R = 2 := by rw [← unhide HR]; rfl
          subst hr
          have hw1 := fun W => p_w64 x a 262144 W
          rw [e1] at hw1
          have HW1 := hide hw1
          clear e1 HT hw1
          go_wp2_with (go_at_call 34; refine (unhide HW1 _).mono ?_; rintro e w1 ⟨rfl, rfl⟩)
          go_ret
          exact ⟨rfl, (by repeat' (first | (with_reducible exact up_refl _) | (with_reducible assumption) | (with_reducible refine up_alloc ?_ _) | (with_reducible refine up_drewN ?_ _) | (with_reducible refine up_drew ?_) | (with_reducible refine up_set ?_ (by first | (simp; done) | (simp; omega) | omega) _) | (refine up_trans ?_ (by with_reducible assumption))))⟩
        | true =>
          rw [e1, Bool.true_and] at st
          have hw1 := fun W => p_w64 x a 262144 W
          rw [e1] at hw1
          have HW1 := hide hw1
          clear e1 hw1
          cases e2 : win6 p 0 1048576 with
          | false =>
            rw [e2, Bool.false_and] at st
            subst st
            have hr : R = 2 := by rw [← unhide HR]; rfl
            subst hr
            have hw2 := fun W => p_w64 p 0 1048576 W
            rw [e2] at hw2
            have HW2 := hide hw2
            clear e2 HT hw2
            go_wp2_with (first | (go_at_call 34; (with_reducible refine (unhide HW1 _).mono ?_); rintro e w1 ⟨rfl, rfl⟩) | (go_at_call 34; (with_reducible refine (unhide HW2 _).mono ?_); rintro e w1 ⟨rfl, rfl⟩))
            go_ret
            exact ⟨rfl, (by repeat' (first | (with_reducible exact up_refl _) | (with_reducible assumption) | (with_reducible refine up_alloc ?_ _) | (with_reducible refine up_drewN ?_ _) | (with_reducible refine up_drew ?_) | (with_reducible refine up_set ?_ (by first | (simp; done) | (simp; omega) | omega) _) | (refine up_trans ?_ (by with_reducible assumption))))⟩
          | true =>
            rw [e2, Bool.true_and] at st
            have hw2 := fun W => p_w64 p 0 1048576 W
            rw [e2] at hw2
            have HW2 := hide hw2
            have HT2 := hide st
            clear e2 HT hw2 st
            go_wp2_with (first | (go_at_call 34; (with_reducible refine (unhide HW1 _).mono ?_); rintro e w1 ⟨rfl, rfl⟩) | (go_at_call 34; (with_reducible refine (unhide HW2 _).mono ?_); rintro e w1 ⟨rfl, rfl⟩))
            go_roundw
            case rel => exact ⟨k + 1, x, by omega, by first | rfl | trivial | go_num, rfl, HT2, (by repeat' (first | (with_reducible exact up_refl _) | (with_reducible assumption) | (with_reducible refine up_alloc ?_ _) | (with_reducible refine up_drewN ?_ _) | (with_reducible refine up_drew ?_) | (with_reducible refine up_set ?_ (by first | (simp; done) | (simp; omega) | omega) _) | (refine up_trans ?_ (by with_reducible assumption))))⟩
            case measure => simp [intOf]; omega
      · obtain rfl : k = n := by omega
        have hV : V = true := by rw [← unhide HT, unhide HDr k (by rw [unhide HN]; exact Nat.le_refl _)]; rfl
        subst hV
        have hl : 0 < ts.length := by rw [unhide HN]; exact h0
        rcases frs_up (unhide HF) hu with hx | ⟨b, off, rfl, hc⟩
        · rw [hx] at hl; simp at hl
        have c0 := (hc 0 hl).1
        rw [unhide Hf] at c0
        simp only [Nat.zero_mul, Nat.add_zero] at c0
        clear hc HT
        by_cases e : f = 0
        · subst e
          have hr : R = 0 := by rw [← unhide HR]; rfl
          subst hr
          go_wp2_with fail
          go_ret
          exact ⟨rfl, (by repeat' (first | (with_reducible exact up_refl _) | (with_reducible assumption) | (with_reducible refine up_alloc ?_ _) | (with_reducible refine up_drewN ?_ _) | (with_reducible refine up_drew ?_) | (with_reducible refine up_set ?_ (by first | (simp; done) | (simp; omega) | omega) _) | (refine up_trans ?_ (by with_reducible assumption))))⟩
        · have e1 : (f == 0) = false := beq_false_of_ne e
          have e2 : (f != 0) = true := by rw [bne, e1]; rfl
          have hr : R = 2 := by rw [← unhide HR, e1]; rfl
          subst hr
          go_wp2_with fail
          go_ret
          exact ⟨rfl, (by repeat' (first | (with_reducible exact up_refl _) | (with_reducible assumption) | (with_reducible refine up_alloc ?_ _) | (with_reducible refine up_drewN ?_ _) | (with_reducible refine up_drew ?_) | (with_reducible refine up_set ?_ (by first | (simp; done) | (simp; omega) | omega) _) | (refine up_trans ?_ (by with_reducible assumption))))⟩
  · rw [if_neg hz]
    have hz' : win6 ts.length 1 64 = false := by simpa using hz
    have hw := fun W => p_wI ts.length 1 64 W
    rw [hz'] at hw
    have HW1 := hide hw
    clear hz hz' hw HW HS HDr HF h HV
    generalize ts.length = n at *
    go_enter Tryz.func33, Tryz.ntmps33
    go_wp2_with (go_at_call 71; (with_reducible refine (unhide HW1 _).mono ?_); rintro e w1 ⟨rfl, rfl⟩)
    go_ret
    exact ⟨rfl, (by repeat' (first | (with_reducible exact up_refl _) | (with_reducible assumption) | (with_reducible refine up_alloc ?_ _) | (with_reducible refine up_drewN ?_ _) | (with_reducible refine up_drew ?_) | (with_reducible refine up_set ?_ (by first | (simp; done) | (simp; omega) | omega) _) | (refine up_trans ?_ (by with_reducible assumption))))⟩
end Go.Proofs.YthifcalemhpmoaaGreat
namespace Go.Proofs.YthifcalemhpmoaaGreat
open Go.RowKit Go.Proofs.Gn
/-- A line of influence: what the program keeps of it, and its value. -/
structure Ln where
  span : Int
  po : Int
  org : Int
  c0 : Int
  c1 : Int
  c2 : Int
  f : Nat
  caps : Array Value
  val : Int → Int
def lnC (L : Ln) : List Value := [.int .i64 L.span, .int .i64 L.po, .int .i64 L.org, .int .i64 L.c0, .int .i64 L.c1, .int .i64 L.c2, .func (.func L.f) #[] L.caps]
def lnV (L : Ln) : Value := .agg #[.int .i64 L.span, .int .i64 L.po, .int .i64 L.org, .int .i64 L.c0, .int .i64 L.c1, .int .i64 L.c2, .func (.func L.f) #[] L.caps]
structure LnOk (L : Ln) (w : World) : Prop where
  call : ∀ W, Up w W → ∀ a, -8388608 ≤ a → a ≤ 8388608 → Calls Tryz.prog L.f (#[.int .i64 a] ++ L.caps) W fun e w' => e = .returned (.int .i64 (L.val a)) ∧ Up W w'
  enter : ∀ args W, (callFunc L.f args).run Tryz.prog W = .ok (.enter L.f args) W
  bd : ∀ a, 0 ≤ L.val a ∧ L.val a ≤ 17179869184
  o : 0 ≤ L.org ∧ L.org ≤ 1048576
theorem lnOk_up {L : Ln} {w w' : World} (h : LnOk L w) (hu : Up w w') : LnOk L w' := ⟨fun W hW => h.call W (up_trans hu hW), h.enter, h.bd, h.o⟩
/-- A train that may stand on a bridge. -/
def TrOk (ts : List (Int × Int)) : Prop := ts.length ≤ 64 ∧ ∀ k (h : k < ts.length), (0 ≤ ts[k].1 ∧ ts[k].1 ≤ 262144) ∧ (0 ≤ ts[k].2 ∧ ts[k].2 ≤ 1048576)
theorem tok_all : ∀ {ts : List (Int × Int)} {a : Int}, 0 ≤ a → tok a ts = true → ∀ k (h : k < ts.length), (0 ≤ ts[k].1 ∧ ts[k].1 ≤ 262144) ∧ (0 ≤ ts[k].2 ∧ ts[k].2 ≤ 1048576)
  | t :: ts, a, ha, h, k, hk => by
    unfold tok at h
    simp only [Bool.and_eq_true] at h
    have h1 := win6_yes h.1
    have h2 := win6_yes h.2.1
    cases k with
    | zero => exact ⟨⟨by simp only [List.getElem_cons_zero]; omega, h1.2⟩, h2⟩
    | succ k => exact tok_all (by omega) h.2.2 k (by simpa using hk)
theorem trOk_of {ts : List (Int × Int)} (h : ctE ts = 0) : TrOk ts ∧ 0 < ts.length := by
  unfold ctE at h
  split at h
  · rename_i hw
    have := win6_yes hw
    split at h
    · rename_i ht
      simp only [Bool.and_eq_true] at ht
      exact ⟨⟨by omega, tok_all (Int.le_refl 0) ht.1⟩, by omega⟩
    · cases h
  · cases h
def efT (L : Ln) (s : Int) (t : Int × Int) : Int := t.2 * L.val (s - t.1 - L.org)
/-- The effect of a train. -/
def ef (L : Ln) (s : Int) : List (Int × Int) → Int
  | [] => 0
  | t :: ts => efT L s t + ef L s ts
theorem ef_app (L : Ln) (s : Int) (a b : List (Int × Int)) : ef L s (a ++ b) = ef L s a + ef L s b := by
  induction a with
  | nil => simp [ef]
  | cons t a ih => simp only [List.cons_append, ef, ih]; omega
theorem ef_take (L : Ln) (s : Int) {ts : List (Int × Int)} {k : Nat} (h : k < ts.length) : ef L s (ts.take (k + 1)) = ef L s (ts.take k) + efT L s ts[k] := by
  rw [List.take_succ_eq_append_getElem h, ef_app]; simp [ef]
theorem efT_bd {L : Ln} {w : World} (hL : LnOk L w) (s : Int) {t : Int × Int} (h : 0 ≤ t.2 ∧ t.2 ≤ 1048576) : 0 ≤ efT L s t ∧ efT L s t ≤ 18014398509481984 := by
  unfold efT
  have b := hL.bd (s - t.1 - L.org)
  refine ⟨Int.mul_nonneg h.1 b.1, ?_⟩
  calc t.2 * L.val (s - t.1 - L.org) ≤ 1048576 * 17179869184 := Int.mul_le_mul h.2 b.2 b.1 (by decide)
    _ ≤ 18014398509481984 := by decide
theorem ef_bd {L : Ln} {w : World} (hL : LnOk L w) (s : Int) {ts : List (Int × Int)} (h : TrOk ts) : ∀ k, k ≤ ts.length → 0 ≤ ef L s (ts.take k) ∧ ef L s (ts.take k) ≤ 18014398509481984 * (k : Int)
  | 0, _ => by simp [ef]
  | k + 1, hk => by
    have i := ef_bd hL s h k (by omega)
    have t := efT_bd hL s (h.2 k (by omega)).2
    rw [ef_take L s (by omega)]
    omega
end Go.Proofs.YthifcalemhpmoaaGreat
namespace Go.Proofs.Hin
open Go
section
variable {F : Fence} {n : Nat} {P : Program} {ops : Array Oper} {Q : Exit → Act → World → Prop} {md : Region.Mode} {S : World → Prop} {L : Nat}
/-- In the text's order each may come first, up to L, which is alone then; LF: what is listed behind it. -/
def lexM (md : Region.Mode) (ops : Array Oper) (L : Nat) (LF : Array Bool) : Nat → Nat → Array Bool → Bool
  | 0, k, listed => decide (k = L) && decide (Region.ready md ops listed = [L]) && decide (listed.setIfInBounds L true = LF)
  | f + 1, k, listed => decide (k < L) && (Region.ready md ops listed).contains k && Region.free md ops listed k && closedB md ops listed && lexM md ops L LF f (k + 1) (listed.setIfInBounds k true)
theorem AnyC.lexM {oL : Oper} {LF : Array Bool} (m : Nat) (hn : Region.noSelect ops = true) (hs : lastB md ops L = true) (hsz : L < ops.size) (hL : ops[L]? = some oL) : ∀ (l : List Oper) (k : Nat) (listed : Array Bool) (a : Act), (∀ j, j < l.length → l[j]? = ops[k + j]?) →
    Hin.lexM md ops L LF l.length k listed = true → wpQuiet P ops S (fun b => Region.wanted oL (yielded ops b.tmps) = true ∧ ∀ w, S w → oL.wpIn F n P b w (fun c u => wpAnyIn F n P md ops Q m LF c u) Q) l a → AnyC F n P md ops Q S L (l.length + 1 + m) listed a
  | [], k, listed, a, _, hB, h => by
    simp only [List.length_nil, Hin.lexM, Bool.and_eq_true, decide_eq_true_eq] at hB
    obtain ⟨⟨rfl, h1⟩, rfl⟩ := hB
    show AnyC F n P md ops Q S k ([].length + 1 + m) listed a
    rw [show ([] : List Oper).length + 1 + m = m + 1 by simp; omega]
    refine ⟨fun e => by rw [h1] at e; simp at e, fun i hi => ?_⟩
    rw [h1] at hi
    obtain rfl : i = k := by simpa using hi
    refine ⟨fun _ w hw => ?_, fun e => absurd rfl e⟩
    unfold wpOpIn
    rw [hL]
    dsimp only
    rw [if_pos h.1]
    exact h.2 w hw
  | o :: l, k, listed, a, hl, hB, h => by
    have h0 : ops[k]? = some o := by simpa using (hl 0 (by simp)).symm
    simp only [List.length_cons, Hin.lexM, Bool.and_eq_true, decide_eq_true_eq] at hB
    obtain ⟨⟨⟨⟨hk, hr⟩, hf⟩, hc⟩, hB'⟩ := hB
    have hst : qOp P ops S k (wpQuiet P ops S (fun b => Region.wanted oL (yielded ops b.tmps) = true ∧ ∀ w, S w → oL.wpIn F n P b w (fun c u => wpAnyIn F n P md ops Q m LF c u) Q) l) a := by unfold qOp; simp only [h0]; exact h
    obtain ⟨v, hy, hK⟩ := yieldsIn_of_qOp h0 hst
    rw [show (o :: l).length + 1 + m = (l.length + 1 + m) + 1 by simp; omega]
    exact AnyC.first h0 (Region.noSelect_spec hn) hs hsz hk (l.length + 1 + m) listed a (Region.free_spec h0 hf) (closed_of hc) (by simpa using hr) hy
      (AnyC.lexM m hn hs hsz hL l (k + 1) _ _ (fun j hj => by have := hl (j + 1) (by simp; omega); simpa [Nat.add_assoc, Nat.add_comm 1 j] using this) hB' hK)
/-- All checks of the region's form at once. -/
def lateMB (md : Region.Mode) (ops : Array Oper) (L m : Nat) (LF : Array Bool) : Bool := noDefer ops && Region.noSelect ops && lastB md ops L && decide (L + 1 + m = ops.size) && Hin.lexM md ops L LF L 0 (Array.replicate ops.size false)
theorem wpIn_region_lateM {id : Nat} {a : Act} {w : World} {ops l : List Oper} {oL : Oper} (L m : Nat) (LF : Array Bool) (hF : Open F) (hm : P.follows .mixedOrders = true) (hB : lateMB .any ops.toArray L m LF = true) (hl : ops.take L = l) (hL : ops[L]? = some oL) (hC : S w.drew)
    (h : wpQuiet P ops.toArray S (fun b => Region.wanted oL (yielded ops.toArray b.tmps) = true ∧ ∀ w, S w → oL.wpIn F n P b w (fun c u => wpAnyIn F n P .any ops.toArray Q m LF c u) Q) l a) : (Code.region id ops.toArray true).wpIn F n P Q a w := by
  simp only [lateMB, Bool.and_eq_true, decide_eq_true_eq] at hB
  obtain ⟨⟨⟨⟨h1, h2⟩, h3⟩, h4⟩, h5⟩ := hB
  subst hl
  have e0 : ops.length = L + 1 + m := by have := h4; simp at this; omega
  have e1 : (ops.take L).length = L := by rw [List.length_take]; omega
  have e : ops.toArray.size = L + 1 + m := h4.symm
  refine wpIn_region_any hm ?_
  rw [e] at h5 ⊢
  have k := AnyC.lexM (F := F) (n := n) (Q := Q) (S := S) (md := .any) (P := P) (ops := ops.toArray) (L := L) (oL := oL) (LF := LF) m h2 h3 (by rw [e]; omega) (by simpa using hL) (ops.take L) 0 (Array.replicate (L + 1 + m) false) a
    (fun j hj => by rw [e1] at hj; rw [Nat.zero_add, List.getElem?_toArray, List.getElem?_take, if_pos hj]) (by rw [e1]; exact h5) h
  rw [e1] at k
  exact AnyC.plain hF h1 _ _ _ _ hC k
end
end Go.Proofs.Hin
namespace Go.Proofs.YthifcalemhpmoaaGreat
open Go.RowKit Go.Proofs.Gn
/-- What is known after some bits. -/
def Bit (d R T q r : Int) : Prop := T * R = q * d + r ∧ 0 ≤ q ∧ 0 ≤ r
theorem bit_le {d R T q r : Int} (hd : 0 < d) (hR : 0 ≤ R ∧ R < d) (hT : 0 ≤ T) (h : Bit d R T q r) : q ≤ T := by
  obtain ⟨h1, h2, h3⟩ := h
  have a : T * R ≤ T * d := Int.mul_le_mul_of_nonneg_left (by omega) hT
  exact Int.le_of_mul_le_mul_right (show q * d ≤ T * d by omega) hd
theorem bit_less {d R T q r : Int} (h : Bit d R T q r) (hr : d ≤ r) : Bit d R T (q + 1) (r - d) := by
  obtain ⟨h1, h2, h3⟩ := h
  refine ⟨?_, by omega, by omega⟩
  rw [Int.add_mul]; omega
theorem bit_zero {d R T q r : Int} (h : Bit d R T q r) : Bit d R (2 * T) (2 * q) (2 * r) := by
  obtain ⟨h1, h2, h3⟩ := h
  refine ⟨?_, by omega, by omega⟩
  rw [Int.mul_assoc, h1, Int.mul_assoc, Int.mul_add]
theorem bit_one {d R T q r : Int} (hR : 0 ≤ R) (h : Bit d R T q r) : Bit d R (2 * T + 1) (2 * q) (2 * r + R) := by
  obtain ⟨h1, h2, h3⟩ := bit_zero h
  refine ⟨?_, by omega, by omega⟩
  rw [Int.add_mul]; omega
theorem bit_end {a b d W R q r : Int} (hd : 0 < d) (hb : W * d + R = b) (h : Bit d R a q r) (hr : r < d) : W * a + q = a * b / d := by
  obtain ⟨h1, h2, h3⟩ := h
  have e : (W * a + q) * d = a * b - r := by rw [← hb, Int.mul_add, h1]; grind
  exact ediv_unique hd (by omega) (by omega)
end Go.Proofs.YthifcalemhpmoaaGreat
