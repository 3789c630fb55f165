/- The weights over a culvert, as the program yields them. -/
import Derived.Test.YtdignnmhiifpgaaBrB
namespace Go.Proofs.Ytdignnmhiifpgaa
open Go.RowKit Go.Proofs.Gn Go.Shelf
attribute [local go_sem] Oper.semAt_some
set_option linter.unusedVariables false
/-- The loads of those that are at most so far behind. -/
def fsL (b : Int) : List (Int × Int) → Int
  | [] => 0
  | t :: ts => (if t.1 ≤ b then t.2 else 0) + fsL b ts
theorem fsL_app (b : Int) (x y : List (Int × Int)) : fsL b (x ++ y) = fsL b x + fsL b y := by
  induction x with
  | nil => simp [fsL]
  | cons t x ih => simp only [List.cons_append, fsL, ih]; omega
theorem fsL_take (b : Int) {ts : List (Int × Int)} {k : Nat} (h : k < ts.length) : fsL b (ts.take (k + 1)) = fsL b (ts.take k) + (if ts[k].1 ≤ b then ts[k].2 else 0) := by
  rw [List.take_succ_eq_append_getElem h, fsL_app]; simp [fsL]
theorem fsL_bd (b : Int) {ts : List (Int × Int)} (h : ∀ k (h : k < ts.length), 0 ≤ ts[k].2 ∧ ts[k].2 ≤ 1048576) : ∀ k, k ≤ ts.length → 0 ≤ fsL b (ts.take k) ∧ fsL b (ts.take k) ≤ 1048576 * (k : Int)
  | 0, _ => by simp [fsL]
  | k + 1, hk => by
    have i := fsL_bd b h k (by omega)
    have t := h k (by omega)
    rw [fsL_take b (by omega)]
    split <;> omega
/-- The weights from each axle on. -/
def wtL (L : Int) : List (Int × Int) → List Int
  | [] => []
  | t :: ts => fsL (t.1 + L) (t :: ts) :: wtL L ts
theorem wtL_len (L : Int) : ∀ ts : List (Int × Int), (wtL L ts).length = ts.length
  | [] => rfl
  | t :: ts => by simp [wtL, wtL_len L ts]
theorem wtL_get (L : Int) : ∀ {ts : List (Int × Int)} {k : Nat} (h : k < ts.length), (wtL L ts)[k]'(by rw [wtL_len]; exact h) = fsL (ts[k].1 + L) (ts.drop k)
  | t :: ts, 0, _ => by simp [wtL]
  | t :: ts, k + 1, h => by
    simp only [wtL, List.getElem_cons_succ, List.drop_succ_cons]
    exact wtL_get L (by simpa using h)
theorem wtL_take (L : Int) {ts : List (Int × Int)} {k : Nat} (h : k < ts.length) : (wtL L ts).take (k + 1) = (wtL L ts).take k ++ [fsL (ts[k].1 + L) (ts.drop k)] := by
  rw [List.take_succ_eq_append_getElem (by rw [wtL_len]; exact h), wtL_get L h]
theorem wt_make (n : Nat) (A : Option Addr) (len cap : Nat) (L : Int) (w : World) :
    CallsIn Fence.wide n Try.prog 39 #[.slice A len cap, .int .i64 L] w fun e w' => e = .returned (.func (.func 68) #[] #[.pointer (some ⟨w.heap.size, 0, none⟩), .pointer (some ⟨w.heap.size + 1, 0, none⟩)]) ∧ w' = (w.alloc (.cells #[.slice A len cap] 30)).alloc (.cells #[.int .i64 L] 2) := by
  refine callsIn_of_wp Try.func39 rfl trivial ?_ rfl
  simp only [Try.ntmps39, List.size_toArray, List.length_cons, List.length_nil, Nat.reduceAdd, Nat.reduceSub, Array.replicate_succ, Array.replicate_zero, List.push_toArray, List.append_toArray, List.nil_append, List.cons_append]
  gi_wp2
  go_ret
  exact ⟨rfl, rfl⟩
/-- Where the train and the length lie. -/
structure WtW (Bt Bg : Nat) (A : Option Addr) (cap : Nat) (L : Int) (ts : List (Int × Int)) (V : World) : Prop where
  t : V.cell? ⟨Bt, 0, none⟩ = some (.slice A ts.length cap)
  g : V.cell? ⟨Bg, 0, none⟩ = some (.int .i64 L)
  f : Frs V A ts
theorem WtW.kept {p : Nat → Prop} {Bt Bg : Nat} {A : Option Addr} {cap : Nat} {L : Int} {ts : List (Int × Int)} {V V' : World} (h : WtW Bt Bg A cap L ts V) (hn : BrN p Bt Bg A) (k : KpP p V V') : WtW Bt Bg A cap L ts V' :=
  ⟨kpP_cell k (a := ⟨Bt, 0, none⟩) hn.t h.t, kpP_cell k (a := ⟨Bg, 0, none⟩) hn.l h.g, frs_kpP h.f k hn.a⟩
theorem WtW.up {Bt Bg : Nat} {A : Option Addr} {cap : Nat} {L : Int} {ts : List (Int × Int)} {V V' : World} (h : WtW Bt Bg A cap L ts V) (u : Up V V') : WtW Bt Bg A cap L ts V' :=
  ⟨up_cell u h.t, up_cell u h.g, frs_up h.f u⟩
set_option maxRecDepth 100000 in
set_option maxHeartbeats 8000000 in
theorem wt_seq (p : Nat → Prop) (m : Nat) (Bt Bg : Nat) (A : Option Addr) (cap : Nat) (L : Int) (ts : List (Int × Int)) (w : World) (hW : WtW Bt Bg A cap L ts w) (hN : BrN p Bt Bg A) (hp : ∀ k, p k → k < w.heap.size) (ht : TrOk ts) (hL : 0 ≤ L ∧ L ≤ 1048576) (hcap : ts.length ≤ cap) (n : Nat) (hn3 : 3 ≤ n) :
    SeqY Fence.wide n Try.prog 68 #[.pointer (some ⟨Bt, 0, none⟩), .pointer (some ⟨Bg, 0, none⟩)] (fun s : Int => #[.int .i64 s]) (KpQ p m) (fun _ _ => True)
      (fun xs => xs = wtL L ts) (fun xs => ∃ D, xs ++ D = wtL L ts) w := by
  intro lp J Jx W hWu _ _ hJ hJx hJ0 hY
  have hsW := hWu.size
  have hWW : WtW Bt Bg A cap L ts W := hW.up hWu
  have HT := hide (fun k (h : k < ts.length) => (⟨ht.2 k h, wtL_take L h⟩ : _ ∧ _))
  have HFB := hide (fun b k (h : k < ts.length) => fsL_bd b (ts := ts.drop k) (fun j hj => by rw [List.getElem_drop]; exact (ht.2 (k + j) (by rw [List.length_drop] at hj; omega)).2))
  have HFT := hide (fun b k j (h : k + j < ts.length) => (by have t := fsL_take b (ts := ts.drop k) (k := j) (by rw [List.length_drop]; omega); rw [List.getElem_drop] at t; exact t : fsL b ((ts.drop k).take (j + 1)) = fsL b ((ts.drop k).take j) + (if ts[k + j].1 ≤ b then ts[k + j].2 else 0)))
  have h64 := ht.1
  have hall : (wtL L ts).take ts.length = wtL L ts := List.take_of_length_le (by rw [wtL_len]; exact Nat.le_refl _)
  have HAll := hide hall
  have HPre := hide (fun k => (⟨_, List.take_append_drop k (wtL L ts)⟩ : ∃ D, (wtL L ts).take k ++ D = wtL L ts))
  have HY := hide hY
  have HJ := hide hJ
  have HN := hide hN
  have HP := hide hp
  have HW0 := hide hWW
  have HJ0 := hide hJ0
  obtain ⟨WL, hWL⟩ : ∃ WL, wtL L ts = WL := ⟨_, rfl⟩
  rw [hWL] at HAll
  simp only [hWL] at HT HPre
  have HWL := hide hWL
  clear hW hWu hJ hJx hY hN hp ht hall hWW hJ0 hWL
  obtain ⟨N, hNN⟩ : ∃ N, ts.length = N := ⟨_, rfl⟩
  have HNN := hide hNN
  rw [hNN] at h64 HAll hcap
  clear hNN
  have hmx : Try.prog.follows .mixedOrders = true := by kernel_rfl
  have h1 : 1 ≤ n := by omega
  have h2 : 1 ≤ n - 1 := by omega
  have c0 : W.cell? ⟨Bt, 0, none⟩ = some (.slice A N cap) := by have t := (unhide HW0).t; rwa [unhide HNN] at t
  refine callsIn_of_wp Try.func68 rfl trivial ?_ rfl
  simp only [Try.ntmps68, List.size_toArray, List.length_cons, List.length_nil, Nat.reduceAdd, Nat.reduceSub, Array.replicate_succ, Array.replicate_zero, List.push_toArray, List.append_toArray, List.nil_append, List.cons_append]
  gi_wp2
  gi_loopw [11] (fun s11 wr => ∃ k : Nat, k ≤ N ∧ s11 = .int .i64 k ∧ Hid (J (WL.take k) wr) ∧ Hid (WtW Bt Bg A cap L ts wr) ∧ w.heap.size ≤ wr.heap.size) (fun s11 _ => N - (intOf s11).toNat)
  case atStart => exact ⟨0, by omega, rfl, hide (by rw [List.take_zero]; exact unhide HJ0), HW0, hsW⟩
  case round =>
    obtain ⟨k, hk, rfl, HJs, HWr, hsr⟩ := hrel
    clear HJ0 HW0 c0
    by_cases hlt : k < N
    · have hl : k < ts.length := by rw [unhide HNN]; exact hlt
      obtain ⟨⟨hx, hy⟩, hst⟩ := unhide HT k hl
      rcases (unhide HWr).f with hnil | ⟨b, off, rfl, hcc⟩
      · rw [hnil] at hl; simp at hl
      obtain ⟨k0, k1⟩ := hcc k hl
      obtain ⟨x, hxx⟩ : ∃ x, ts[k].1 = x := ⟨_, rfl⟩
      obtain ⟨p2, hpp⟩ : ∃ x, ts[k].2 = x := ⟨_, rfl⟩
      rw [hxx] at hx hst k0
      rw [hpp] at k1
      have HST := hide hst
      have hwk : IntKind.i64.wrap ((k : Int) + 1) = (k : Int) + 1 := IntWalk.i64_in _ ⟨by omega, by omega⟩
      have i0 : (0 : Int) ≤ (k : Int) := by omega
      have i1 : (k : Int) < (N : Int) := by omega
      have i2 : (k : Int).toNat = k := by omega
      have HCC := hide hcc
      clear hst hxx hpp hy hcc
      gi_upto_region 3 with fail
      refine at_wpIn (fun W1 hW1 => ?_)
      have U1 : Up wr W1 := by rw [hW1]; exact (by repeat' (first | (with_reducible exact up_refl _) | (with_reducible assumption) | (with_reducible refine up_alloc ?_ _) | (with_reducible refine up_drewN ?_ _) | (with_reducible refine up_drew ?_) | (with_reducible refine up_set ?_ (by first | (simp; done) | (simp; omega) | omega) _) | (refine up_trans ?_ (by with_reducible assumption))))
      have BF : Bx W1 wr.heap.size [.int .i64 x, .int .i64 p2] := by rw [hW1]; exact bx_new wr _ _
      have HW1 := hide ((unhide HWr).up U1)
      have HJ1 := hide (unhide HJ _ _ _ _ (unhide HJs) (up_grP U1) (fun r e => by cases e))
      have hs1 : w.heap.size ≤ W1.heap.size := Nat.le_trans hsr U1.size
      have HCo := hide (fun q (h : q < ts.length) => (⟨up_cell U1 (unhide HCC q h).1, up_cell U1 (unhide HCC q h).2⟩ : _ ∧ _))
      clear hW1 U1 k0 k1 HWr HJs HCC
      obtain ⟨Bf, hBfe⟩ : ∃ B, wr.heap.size = B := ⟨_, rfl⟩
      rw [hBfe] at BF ⊢
      clear hBfe hsr
      obtain ⟨wo, hwo⟩ : ∃ wo, wo = W1 := ⟨_, rfl⟩
      rw [← hwo] at BF HW1 HJ1 hs1 HCo ⊢
      clear hwo
      have ct : wo.cell? ⟨Bt, 0, none⟩ = some (.slice (some ⟨b, off, none⟩) N cap) := by have t := (unhide HW1).t; rwa [unhide HNN] at t
      have j3 : (k : Int) ≤ (N : Int) := by omega
      have j4 : cap ≠ k := by omega
      have j5 : k ≤ N := by omega
      gi_upto_region 5 with fail
      clear ct
      have HBF := hide BF
      clear BF
      gi_loopw [6, 20] (fun s6 s20 wr => ∃ j : Nat, k + j ≤ N ∧ s20 = .int .i64 j ∧ s6 = .int .i64 (fsL (x + L) ((ts.drop k).take j)) ∧ Up wo wr) (fun _ s20 _ => N - (intOf s20).toNat)
      case atStart => exact ⟨0, by omega, rfl, by rw [List.take_zero]; rfl, up_refl _⟩
      case round =>
        obtain ⟨j, hj, rfl, rfl, hu⟩ := hrel
        by_cases hlt2 : k + j < N
        · have hl2 : k + j < ts.length := by rw [unhide HNN]; exact hlt2
          obtain ⟨k0, k1⟩ := unhide HCo (k + j) hl2
          have bd := unhide HFB (x + L) k hl j (by rw [List.length_drop]; omega)
          obtain ⟨⟨_, hP⟩, _⟩ := unhide HT (k + j) hl2
          have hst := unhide HFT (x + L) k j hl2
          generalize ts[k + j].1 = X at *
          generalize ts[k + j].2 = P at *
          have HST2 := hide hst
          obtain ⟨f, hf⟩ : ∃ f, fsL (x + L) ((ts.drop k).take j) = f := ⟨_, rfl⟩
          rw [hf] at bd HST2 ⊢
          have ea : off + (k + j) * 2 = off + k * 2 + j * 2 := by omega
          rw [ea] at k0 k1
          have c0 := up_cell hu k0
          have c1 := up_cell hu k1
          have cg := up_cell hu (unhide HW1).g
          have cx := (bx2 (bx_up (unhide HBF) hu)).1
          have cg9 := fun o => alloc_cell o cg
          have cx9 := fun o => alloc_cell o cx
          have q1 : IntKind.i64.wrap (x + L) = x + L := IntWalk.i64_in _ ⟨by omega, by omega⟩
          have q2 : IntKind.i64.wrap (f + P) = f + P := IntWalk.i64_in _ ⟨by omega, by omega⟩
          have q3 : IntKind.i64.wrap ((j : Int) + 1) = (j : Int) + 1 := IntWalk.i64_in _ ⟨by omega, by omega⟩
          have r0 : (0 : Int) ≤ (j : Int) := by omega
          have r1 : (j : Int) < (N : Int) - (k : Int) := by omega
          have r2 : (j : Int) < ((N - k : Nat) : Int) := by omega
          have r3 : (j : Int).toNat = j := by omega
          clear hst hf k0 k1 ea
          by_cases hc : X ≤ x + L
          · have d0 : decide (X ≤ x + L) = true := decide_eq_true hc
            gi_wp2
            go_roundw
            case rel => exact ⟨j + 1, by omega, by go_num, by rw [unhide HST2, if_pos hc], (by repeat' (first | (with_reducible exact up_refl _) | (with_reducible assumption) | (with_reducible refine up_alloc ?_ _) | (with_reducible refine up_drewN ?_ _) | (with_reducible refine up_drew ?_) | (with_reducible refine up_set ?_ (by first | (simp; done) | (simp; omega) | omega) _) | (refine up_trans ?_ (by with_reducible assumption))))⟩
            case measure => simp [intOf]; omega
          · have d0 : decide (X ≤ x + L) = false := decide_eq_false hc
            gi_wp2
            go_roundw
            case rel => exact ⟨j + 1, by omega, by go_num, by rw [unhide HST2, if_neg hc, Int.add_zero], (by repeat' (first | (with_reducible exact up_refl _) | (with_reducible assumption) | (with_reducible refine up_alloc ?_ _) | (with_reducible refine up_drewN ?_ _) | (with_reducible refine up_drew ?_) | (with_reducible refine up_set ?_ (by first | (simp; done) | (simp; omega) | omega) _) | (refine up_trans ?_ (by with_reducible assumption))))⟩
            case measure => simp [intOf]; omega
        · have hjN : j = N - k := by omega
          have hS : fsL (x + L) ((ts.drop k).take j) = fsL (x + L) (ts.drop k) := by rw [List.take_of_length_le (by rw [List.length_drop, unhide HNN]; omega)]
          rw [hS]
          obtain ⟨f, hf⟩ : ∃ f, fsL (x + L) (ts.drop k) = f := ⟨_, rfl⟩
          have HST2 := unhide HST
          rw [hf] at HST2 ⊢
          have HST3 := hide HST2
          have r2 : ¬ (j : Int) < ((N - k : Nat) : Int) := by omega
          have r1 : ¬ (j : Int) < (N : Int) - (k : Int) := by omega
          have HW2 := hide ((unhide HW1).up hu)
          have HJ2 := hide (unhide HJ _ _ _ _ (unhide HJ1) (up_grP hu) (fun r e => by cases e))
          have hs2 : w.heap.size ≤ wr.heap.size := Nat.le_trans hs1 hu.size
          obtain ⟨fn, tm, asg, bo, hy, hR⟩ := unhide HY _ f wr (unhide HJ2) trivial
          have HR := hide hR
          clear hR HJ2 HST HST2 hS hf hu HJ1 HW1 hs1 HBF HCo
          gi_wp2
          refine (unhide HR).mono ?_
          rintro e V2 hR
          obtain ⟨bv, rfl, h3⟩ := yield_casesP hR
          clear hR HR hy
          rcases h3 with ⟨rfl, hJ2, hk2⟩ | ⟨rfl, hJx2, _⟩
          · have HJ3 := hide hJ2
            have HW3 := hide ((unhide HW2).kept (unhide HN) hk2.1)
            have hs3 : w.heap.size ≤ V2.heap.size := Nat.le_trans hs2 hk2.1.1
            clear hJ2 hk2 HW2
            gi_wp2
            go_roundw
            case rel => exact ⟨k + 1, by omega, by first | rfl | trivial | go_num, hide (by rw [unhide HST3]; exact unhide HJ3), HW3, hs3⟩
            case measure => simp [intOf]; omega
          · gi_wp2
            refine bodyPost_ret (results_none rfl _ _ _) rfl ?_
            obtain ⟨D, hD⟩ := unhide HPre (k + 1)
            rw [unhide HST3] at hD
            exact ⟨⟨_, rfl⟩, .inr ⟨_, ⟨D, by rw [unhide HWL]; exact hD⟩, hJx2⟩⟩
    · obtain rfl : k = N := by omega
      have hA := unhide HJs
      rw [unhide HAll] at hA
      have HA := hide hA
      clear hA HJs
      gi_wp2
      go_end0
      exact ⟨⟨_, rfl⟩, .inl ⟨_, (unhide HWL).symm, unhide HA⟩⟩
end Go.Proofs.Ytdignnmhiifpgaa
