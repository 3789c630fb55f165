/- What a piece carries: load.carried. -/
import Derived.Test.YtdehnokcjnbjoaaGreatCrdM
import Derived.Test.YtdehnokcjnbjoaaGreatPkSrtN
namespace Go.Proofs.YtdehnokcjnbjoaaGreat
open Go.RowKit Go.Proofs.Gn
attribute [local go_sem] Oper.semAt_some
set_option linter.unusedVariables false
theorem inN_snoc (F : List Nat) (u : Nat) : inN (F ++ [u]) = inN F ++ [(u : Int)] := by simp [inN]
theorem inN_len (F : List Nat) : (inN F).length = F.length := by simp [inN]
theorem inN_mem (F : List Nat) (u : Nat) : (inN F).contains (u : Int) = true ↔ u ∈ F := by
  unfold inN
  simp only [List.contains_iff_mem, List.mem_map]
  constructor
  · rintro ⟨k, hk, e⟩
    obtain rfl : k = u := by omega
    exact hk
  · exact fun h => ⟨u, h, rfl⟩
theorem own_cellN {W : World} {base e g c n : Nat} {F : List Nat} (h : W.ownsRow base e 1 (.slice (some ⟨g, 0, none⟩) n c) n (cellsN (inN F))) {q : Nat} (hq : q < F.length) : ∀ W', Up W W' → W'.cell? ⟨g, q, none⟩ = some (.int .i64 F[q]) := fun W' hu => by
  have hl : (cellsN (inN F)).length = n * 1 := h.1
  rw [cellsN_length, inN_len] at hl
  have k := (own_upN h hu).cellAt q (by omega)
  rw [k]
  simp [cellsN, inN, hq]
/-- What the loops have found. -/
def FdQ (ps : List Pce) (i : Nat) (w : World) (F : List Nat) (q : Nat) (s5 : Value) (wr : World) : Prop := ∃ G c, s5 = .slice (some ⟨G, 0, none⟩) F.length c ∧ wr.ownsRow w.heap.size 3 1 s5 F.length (cellsN (inN F)) ∧ Fnd ps i F q ∧ Up w wr
theorem slice_some {W : World} {base e n : Nat} {v : Value} {xs : List Value} (h : W.ownsRow base e 1 v n xs) (h0 : 0 < n) : ∃ G c, v = .slice (some ⟨G, 0, none⟩) n c := by
  rcases h.2 with ⟨_, h1⟩ | ⟨g, cap, cur, rfl, _⟩
  · omega
  · exact ⟨g, cap, rfl⟩
set_option maxRecDepth 100000 in
set_option maxHeartbeats 16000000 in
theorem p_carried (A : Option Addr) (ps : List Pce) (cA i : Nat) (w : World) (hA : Pcs w A ps) (hok : okPs ps = true) (hi : i < ps.length) (hn : ps.length ≤ 1000) :
    Calls Tryz.prog 72 #[.slice A ps.length cA, .int .i64 i] w fun e w' => NmBack (cdL ps i) w e w' := by
  unfold NmBack
  have HR := hide (fun u v (hu : u < ps.length) (hv : v < ps.length) W => p_rests ps[u] ps[v] ((okP_iff _).1 (okPs_get hok hu)) ((okP_iff _).1 (okPs_get hok hv)) W)
  have HRs := hide (fun u v (hu : u < ps.length) (hv : v < ps.length) => rsN_at ps hu hv)
  have HStart := hide (fnd_start hi)
  have HLen := hide (fun F q (h : Fnd ps i F q) => h.len)
  have HLt := hide (fun F q (h : Fnd ps i F q) => h.lt)
  have HAdd := hide (fun F q u (h : Fnd ps i F q) => h.add (u := u))
  have HNext := hide (fun F q (h : Fnd ps i F q) => h.next)
  have HSorted := hide (fun F (h : Fnd ps i F F.length) => h.sorted hi)
  obtain ⟨b, off, rfl, hc⟩ := hA.resolve_left (by intro e; rw [e] at hi; simp at hi)
  have HCk := hide hc
  obtain ⟨n, hnn⟩ : ∃ n, ps.length = n := ⟨_, rfl⟩
  have HNN := hide hnn
  rw [hnn] at hi hn ⊢
  generalize hcd : cdL ps i = CD at *
  obtain ⟨i0', hinf, hz0, hz1, hz2⟩ := info_parts info_intN
  have HI := hide hinf
  clear hc hok hnn hinf hA hcd
  have j0 : (0 : Int) ≤ (i : Int) := by omega
  have j1 : (i : Int) < (n : Int) := by omega
  have j3 : (i : Int).toNat = i := by omega
  go_enter Tryz.func72, Tryz.ntmps72
  go_upto_region 3 with fail
  refine at_wpC (fun W0 hW0 => ?_)
  have fd0 : FdQ ps i w [i] 0 (.slice (some ⟨w.heap.size, 0, none⟩) 1 1) W0 := by
    rw [hW0]
    exact ⟨w.heap.size, 1, rfl, ⟨rfl, .inr ⟨w.heap.size, 1, _, rfl, Nat.le_refl _, World.alloc_heap_new w _, Nat.le_refl _, by unfold maxLen; omega, rfl, rfl⟩⟩, unhide HStart, (by repeat' (first | (with_reducible exact up_refl _) | (with_reducible assumption) | (with_reducible refine up_alloc ?_ _) | (with_reducible refine up_drewN ?_ _) | (with_reducible refine up_drew ?_) | (with_reducible refine up_set ?_ (by first | (simp; done) | (simp; omega) | omega) _) | (refine up_trans ?_ (by with_reducible assumption))))⟩
  clear hW0
  go_loopw [5, 6] (fun s5 s6 wr => ∃ (F : List Nat) (q : Nat), q ≤ F.length ∧ s6 = .int .i64 q ∧ FdQ ps i w F q s5 wr) (fun _ s6 _ => n - (intOf s6).toNat)
  case atStart => exact ⟨[i], 0, by omega, rfl, fd0⟩
  case round =>
    clear fd0
    obtain ⟨F, q, hq, rfl, G, c, rfl, ow, hF, hu⟩ := hrel
    have hFn : F.length ≤ n := by rw [← unhide HNN]; exact unhide HLen F q hF
    obtain ⟨L, hL⟩ : ∃ L, F.length = L := ⟨_, rfl⟩
    have HLL := hide hL
    by_cases hlt : q < F.length
    · have hvn : F[q] < ps.length := unhide HLt F q hF _ (List.getElem_mem hlt)
      obtain ⟨v, hv⟩ : ∃ v, F[q] = v := ⟨_, rfl⟩
      have HV := hide (⟨hlt, hv⟩ : ∃ h : q < F.length, F[q] = v)
      rw [hv] at hvn
      have hFd : FdQ ps i w F q (.slice (some ⟨G, 0, none⟩) F.length c) wr := ⟨G, c, rfl, ow, hF, hu⟩
      rw [hL] at hlt hFn ow ⊢
      have hFd' : ∃ F' : List Nat, q < F'.length ∧ (∃ h : q < F'.length, F'[q] = v) ∧ (∀ u, u < 0 → u < n → rsN ps u v = true → u ∈ F') ∧ FdQ ps i w F' q (.slice (some ⟨G, 0, none⟩) L c) wr := ⟨F, by omega, unhide HV, fun u hu => by omega, by rw [← hL]; exact hFd⟩
      have i0 : (0 : Int) ≤ (q : Int) := by omega
      have i1 : (q : Int) < (L : Int) := by omega
      have i3 : (q : Int).toNat = q := by omega
      have hvn' : v < n := by rw [← unhide HNN]; exact hvn
      clear hv hFd hL ow hF
      go_upto_region 6 with fail
      clear i1
      obtain ⟨wo, rfl⟩ : ∃ wo, wo = wr := ⟨_, rfl⟩
      go_loopw [5, 19] (fun s5 s19 wr => ∃ k : Nat, k ≤ n ∧ s19 = .int .i64 k ∧ ∃ F' : List Nat, q < F'.length ∧ (∃ h : q < F'.length, F'[q] = v) ∧ (∀ u, u < k → u < n → rsN ps u v = true → u ∈ F') ∧ FdQ ps i w F' q s5 wr) (fun _ s19 _ => n - (intOf s19).toNat)
      case atStart => exact ⟨0, by omega, rfl, hFd'⟩
      case round =>
        clear hFd' HV HLL hu
        obtain ⟨k, hk, rfl, F', hq', hv', hdone, G, c, rfl, ow, hF, hu⟩ := hrel
        by_cases hkn : k < n
        · have hkl : k < ps.length := by rw [unhide HNN]; exact hkn
          obtain ⟨a0, a1, a2, a3, a4, a5, a6⟩ := pceAt_up (unhide HCk k hkl) hu
          have HRk := hide (unhide HR k v hkl hvn)
          have hrs := unhide HRs k v hkl hvn
          have HPv := hide (unhide HCk v hvn)
          generalize ps[k] = p at *
          generalize ps[v] = o at *
          have k0 : (0 : Int) ≤ (k : Int) := by omega
          have k1 : (k : Int) < (n : Int) := by omega
          have k3 : (k : Int).toNat = k := by omega
          have v0 : (0 : Int) ≤ (v : Int) := by omega
          have v1 : (v : Int) < (n : Int) := by omega
          have v3 : (v : Int).toNat = v := by omega
          have q1 : (q : Int) < (F'.length : Int) := by omega
          have hwk : IntKind.i64.wrap ((k : Int) + 1) = (k : Int) + 1 := IntWalk.i64_in _ ⟨by omega, by omega⟩
          have hFn' : F'.length ≤ n := by rw [← unhide HNN]; exact unhide HLen F' q hF
          have HF := hide hF
          have HD := hide hdone
          have HV' := hide hv'
          have hcell := own_cellN ow hq'
          rw [hv'.2] at hcell
          obtain ⟨L', hL'⟩ : ∃ L, F'.length = L := ⟨_, rfl⟩
          have HLL' := hide hL'
          rw [hL'] at ow hq' q1 hFn' ⊢
          clear hF hdone hv' hL'
          go_upto_region 8 with fail
          refine at_wpC (fun W4 hW4 => ?_)
          have y4 : Up wr W4 := by rw [hW4]; exact (by repeat' (first | (with_reducible exact up_refl _) | (with_reducible assumption) | (with_reducible refine up_alloc ?_ _) | (with_reducible refine up_drewN ?_ _) | (with_reducible refine up_drew ?_) | (with_reducible refine up_set ?_ (by first | (simp; done) | (simp; omega) | omega) _) | (refine up_trans ?_ (by with_reducible assumption))))
          have b9 : Bx W4 wr.heap.size [.int .i64 p.x, .int .i64 p.y, .int .i64 p.z, .int .i64 p.l, .int .i64 p.w, .int .i64 p.h, .int .i64 p.m] := by rw [hW4]; exact bx_new wr _ _
          have ow4 := own_upN ow y4
          have V4 := up_trans hu y4
          have HCe := hide (fun r : UpW W4 => hcell r.v (up_trans y4 r.up))
          clear hW4 y4 hu ow a0 a1 a2 a3 a4 a5 a6 hcell
          obtain ⟨g9, hg⟩ : ∃ g, wr.heap.size = g := ⟨_, rfl⟩
          rw [hg] at b9 ⊢
          clear hg
          have C0 : ∀ r : UpW W4, r.v.cell? ⟨g9, 0, none⟩ = some (.int .i64 p.x) := fun r => (bx_up b9 r.up 0 _ rfl).1
          have C1 : ∀ r : UpW W4, r.v.cell? ⟨g9, 1, none⟩ = some (.int .i64 p.y) := fun r => (bx_up b9 r.up 1 _ rfl).1
          have C2 : ∀ r : UpW W4, r.v.cell? ⟨g9, 2, none⟩ = some (.int .i64 p.z) := fun r => (bx_up b9 r.up 2 _ rfl).1
          have C3 : ∀ r : UpW W4, r.v.cell? ⟨g9, 3, none⟩ = some (.int .i64 p.l) := fun r => (bx_up b9 r.up 3 _ rfl).1
          have C4 : ∀ r : UpW W4, r.v.cell? ⟨g9, 4, none⟩ = some (.int .i64 p.w) := fun r => (bx_up b9 r.up 4 _ rfl).1
          have C5 : ∀ r : UpW W4, r.v.cell? ⟨g9, 5, none⟩ = some (.int .i64 p.h) := fun r => (bx_up b9 r.up 5 _ rfl).1
          have C6 : ∀ r : UpW W4, r.v.cell? ⟨g9, 6, none⟩ = some (.int .i64 p.m) := fun r => (bx_up b9 r.up 6 _ rfl).1
          have D0 : ∀ r : UpW W4, r.v.cell? ⟨b, off + v * 7, none⟩ = some (.int .i64 o.x) := fun r => (pceAt_up (unhide HPv) (up_trans V4 r.up)).1
          have D1 : ∀ r : UpW W4, r.v.cell? ⟨b, off + v * 7 + 1, none⟩ = some (.int .i64 o.y) := fun r => (pceAt_up (unhide HPv) (up_trans V4 r.up)).2.1
          have D2 : ∀ r : UpW W4, r.v.cell? ⟨b, off + v * 7 + 2, none⟩ = some (.int .i64 o.z) := fun r => (pceAt_up (unhide HPv) (up_trans V4 r.up)).2.2.1
          have D3 : ∀ r : UpW W4, r.v.cell? ⟨b, off + v * 7 + 3, none⟩ = some (.int .i64 o.l) := fun r => (pceAt_up (unhide HPv) (up_trans V4 r.up)).2.2.2.1
          have D4 : ∀ r : UpW W4, r.v.cell? ⟨b, off + v * 7 + 4, none⟩ = some (.int .i64 o.w) := fun r => (pceAt_up (unhide HPv) (up_trans V4 r.up)).2.2.2.2.1
          have D5 : ∀ r : UpW W4, r.v.cell? ⟨b, off + v * 7 + 5, none⟩ = some (.int .i64 o.h) := fun r => (pceAt_up (unhide HPv) (up_trans V4 r.up)).2.2.2.2.2.1
          have D6 : ∀ r : UpW W4, r.v.cell? ⟨b, off + v * 7 + 6, none⟩ = some (.int .i64 o.m) := fun r => (pceAt_up (unhide HPv) (up_trans V4 r.up)).2.2.2.2.2.2
          have E0 : ∀ r : UpW W4, r.v.cell? ⟨G, q, none⟩ = some (.int .i64 v) := fun r => unhide HCe r
          have HRu := hide (fun r : UpW W4 => unhide HRk r.v)
          have HNm : Hid (∀ r : UpW W4, Calls Tryz.prog 112 #[.slice (some ⟨G, 0, none⟩) L' c, .int .i64 k] r.v fun e w' => e = .returned (.bool ((inN F').contains (k : Int))) ∧ Up r.v w') := hide (fun r => by
            have oq := own_upN ow4 r.up
            rw [← unhide HLL'] at oq
            obtain ⟨A2, c2, e2, hp⟩ := own_nms (l := inN F') oq
            rw [inN_len] at e2
            injection e2 with e3 _ _
            have q := p_ContainsN (some ⟨G, 0, none⟩) (inN F') c k r.v (by rw [e3]; exact hp) (by rw [inN_len, unhide HLL']; omega)
            rw [inN_len, unhide HLL'] at q
            exact q)
          have hmem := inN_mem F' k
          generalize hRp : rsP p o = R at *
          generalize hCn : (inN F').contains (k : Int) = CN at *
          cases R with
          | false =>
            refine wp_upq (by kernel_rfl) (by kernel_rfl) ?_; (repeat (go_big_quiet_step ((go_at_call 110; with_reducible exact upq (unhide HRu _))))); refine wpQuiet_nil ?_; intro _ hw'; obtain ⟨pq, hw''⟩ := hw'; subst hw''; have hpq := pq.up
            generalize pq.v = W50 at hpq ⊢
            have V5 := up_trans V4 hpq
            have OW := hide (own_upN ow4 hpq)
            clear C0 C1 C2 C3 C4 C5 C6 D0 D1 D2 D3 D4 D5 D6 E0 HRu HRk HNm HCe b9 ow4 V4 hpq
            go_wp2_with fail
            go_roundw
            case rel => exact ⟨k + 1, by omega, by go_num, F', by rw [unhide HLL']; exact hq', unhide HV', fun u hu1 hu2 hr => by
              by_cases e : u < k
              · exact unhide HD u e hu2 hr
              · obtain rfl : u = k := by omega
                rw [hrs] at hr
                exact absurd hr (by simp), G, c, by rw [unhide HLL'], by rw [unhide HLL']; exact unhide OW, unhide HF, V5⟩
            case measure => simp [intOf]; omega
          | true =>
            cases CN with
            | true =>
              refine wp_upq (by kernel_rfl) (by kernel_rfl) ?_; (repeat (go_big_quiet_step ((first | (go_at_call 110; with_reducible exact upq (unhide HRu _)) | (go_at_call 112; with_reducible exact upq (unhide HNm _)))))); refine wpQuiet_nil ?_; intro _ hw'; obtain ⟨pq, hw''⟩ := hw'; subst hw''; have hpq := pq.up
              generalize pq.v = W50 at hpq ⊢
              have V5 := up_trans V4 hpq
              have OW := hide (own_upN ow4 hpq)
              clear C0 C1 C2 C3 C4 C5 C6 D0 D1 D2 D3 D4 D5 D6 E0 HRu HRk HNm HCe b9 ow4 V4 hpq
              go_wp2_with fail
              go_roundw
              case rel => exact ⟨k + 1, by omega, by go_num, F', by rw [unhide HLL']; exact hq', unhide HV', fun u hu1 hu2 hr => by
                by_cases e : u < k
                · exact unhide HD u e hu2 hr
                · obtain rfl : u = k := by omega
                  exact hmem.1 rfl, G, c, by rw [unhide HLL'], by rw [unhide HLL']; exact unhide OW, unhide HF, V5⟩
              case measure => simp [intOf]; omega
            | false =>
              have hnm : ¬ k ∈ F' := fun h => by have := hmem.2 h; simp at this
              have hF2 : Fnd ps i (F' ++ [k]) q := unhide HAdd F' q k (unhide HF) (by rw [unhide HLL']; exact hq') hkl (by rw [(unhide HV').2]; exact hrs) hnm
              have hFn2 : L' + 1 ≤ n := by
                have := unhide HLen _ _ hF2
                rw [List.length_append, unhide HLL', unhide HNN] at this
                exact this
              have HF2 := hide hF2
              clear hF2 hmem hnm
              refine wp_upq (by kernel_rfl) (by kernel_rfl) ?_; (repeat (go_big_quiet_step ((first | (go_at_call 110; with_reducible exact upq (unhide HRu _)) | (go_at_call 112; with_reducible exact upq (unhide HNm _)))))); refine wpQuiet_nil ?_; intro _ hw'; obtain ⟨pq, hw''⟩ := hw'; subst hw''; have hpq := pq.up
              generalize pq.v = W50 at hpq ⊢
              have V5 := up_trans V4 hpq
              have OW := hide (own_upN ow4 hpq)
              have hlo : ∀ j, (Value.slice (some ⟨G, 0, none⟩) L' c).ownBlock = some j → w.heap.size ≤ j := fun j e => (ow4.lt j e).1
              have hb4 : w.heap.size ≤ W50.heap.size := V5.size
              clear C0 C1 C2 C3 C4 C5 C6 D0 D1 D2 D3 D4 D5 D6 E0 HRu HRk HNm HCe b9 ow4 V4 hpq
              go_wp2_with (at_builtin; refine wpList_append_own _ rfl _ _ 45 rfl w.heap.size 3 i0' _ 1 8 Tryz.underlying45 (unhide HI) hz0 hz1 hz2 rfl (by decide) _ L' (cellsN (inN F')) rfl ((unhide OW).alloc _) ⟨W50.heap.size, 0, none⟩ 1 1 [.int .i64 k] rfl rfl (one_newN _ _ _) (by intro u hu; simp at hu; rcases hu with rfl; rfl) (by unfold maxLen; omega) (by omega) (by simp; omega) ?_; intro v5 W5 hown hgr _)
              have V6 : Up w W5 := (up_alloc V5 _).grown hgr (up_alloc V5 _).size hlo
              obtain ⟨G5, c5', rfl⟩ := slice_some hown (by omega)
              have HO := hide hown
              clear hgr hown OW
              go_roundw
              case rel => exact ⟨k + 1, by omega, by go_num, F' ++ [k], by rw [List.length_append, unhide HLL']; omega, ⟨by rw [List.length_append, unhide HLL']; omega, by rw [List.getElem_append_left (by rw [unhide HLL']; exact hq')]; exact (unhide HV').2⟩, fun u hu1 hu2 hr => by
                by_cases e : u < k
                · exact List.mem_append_left _ (unhide HD u e hu2 hr)
                · obtain rfl : u = k := by omega
                  exact List.mem_append_right _ (by simp), G5, c5', by rw [List.length_append, unhide HLL']; rfl, by rw [inN_snoc, cellsN_snoc, List.length_append, unhide HLL']; exact unhide HO, unhide HF2, V6⟩
              case measure => simp [intOf]; omega
        · obtain rfl : k = n := by omega
          have k1 : ¬ (k : Int) < (k : Int) := by omega
          have hFx : Fnd ps i F' (q + 1) := unhide HNext F' q hF hq' (fun u hu1 hr => by
            rw [hv'.2] at hr
            have hu2 : u < k := by rw [← unhide HNN]; exact hu1
            exact hdone u hu2 hu2 hr)
          have hFn' : F'.length ≤ k := by rw [← unhide HNN]; exact unhide HLen F' q hF
          have hwq : IntKind.i64.wrap ((q : Int) + 1) = (q : Int) + 1 := IntWalk.i64_in _ ⟨by omega, by omega⟩
          have HFx := hide hFx
          have HO := hide ow
          clear hFx hdone hv' hF ow
          go_wp2_with fail
          go_roundw
          case rel => exact ⟨F', q + 1, by omega, by go_num, G, c, rfl, unhide HO, unhide HFx, hu⟩
          case measure => simp [intOf]; omega
    · obtain rfl : q = F.length := by omega
      have hs := unhide HSorted F hF
      have h0 : 0 < F.length := List.length_pos_of_mem hF.ini
      have HF := hide hF
      rw [hL] at ow hlt hFn h0 ⊢
      have i1 : ¬ (L : Int) < (L : Int) := by omega
      have HSo := hide (fun W (hw : Up wr W) => by
        have oq := own_upN ow hw
        rw [← unhide HLL, ← inN_len F] at oq
        have q := p_SortN (w0 := w) oq (by rw [inN_len, unhide HLL]; exact h0) (by rw [inN_len, unhide HLL]; omega) (Nat.le_refl _) (up_trans hu hw)
        rw [hs, inN_len, unhide HLL] at q
        exact q)
      have HCl := hide (show CD.length = L by rw [← hs, List.length_mergeSort, inN_len, unhide HLL])
      clear hs hF ow
      have hur := up_refl wr
      go_wp2_with (go_at_call 113; (with_reducible refine (unhide HSo _ hur).mono ?_); rintro e w9 ⟨rfl, ho, v9⟩; have HO := hide ho; clear ho)
      go_ret
      exact ⟨⟨_, rfl, by rw [unhide HCl]; exact unhide HO⟩, v9⟩
end Go.Proofs.YtdehnokcjnbjoaaGreat
