/- The document's centre of a load. -/
import Derived.Test.YtgfehjhngmabeaaRefMom
namespace Go.Proofs.Ytgfehjhngmabeaa
open Go.RowKit Go.Proofs.Gn
set_option maxRecDepth 100000 in
set_option maxHeartbeats 8000000 in
theorem r_CentreL (s : ByteArray) (A : Option Addr) (ps : List Pce) (capA : Nat) (B : Option Addr) (ys : List Eye) (capB : Nat) (f : Int) (w : World) (hA : Pcs w A ps) (hB : Eyes w B ys) (hn : ps.length ≤ 9223372036854775807) (hm : ys.length ≤ 9223372036854775807) :
    Calls Try.prog 59 #[loV s A ps.length capA B ys.length capB f] w fun e w' => e = .returned (.tuple #[.agg #[.int .i64 (loC s ps ys f fX), .int .i64 (loC s ps ys f fY), .int .i64 (loC s ps ys f fZ)], .int .i64 (loE s ps ys f)]) ∧ Up w w' := by
  have HC := hide (fun W (hW : Up w W) => r_CheckL s A ps capA B ys capB f W (pcs_up hA hW) (eyes_up hB hW) hn hm)
  have HO := hide (fun W (hW : Up w W) (he : loE s ps ys f = 0) => r_moments2 A ps capA W (pcs_up hA hW) (loE_ok he).2.2.2.1 (loE_ok he).1.2.1)
  have HM := hide (fun W (hW : Up w W) (he : loE s ps ys f = 0) => r_mass2 A ps capA W (pcs_up hA hW) (loE_ok he).2.2.2.1 (loE_ok he).1.2.1)
  have HK := hide (fun (he : loE s ps ys f = 0) => (⟨(loE_ok he).2.2.2.2.2, mo_all fX fX_bd (loE_ok he).2.2.2.1 (loE_ok he).1.2.1, mo_all fY fY_bd (loE_ok he).2.2.2.1 (loE_ok he).1.2.1, mo_all fZ fZ_bd (loE_ok he).2.2.2.1 (loE_ok he).1.2.1⟩ : _ ∧ _ ∧ _ ∧ _))
  unfold loC
  clear hA hB
  generalize loE s ps ys f = E at *
  generalize mo fX ps = mx at *
  generalize mo fY ps = my at *
  generalize mo fZ ps = mz at *
  generalize mas ps = S at *
  generalize ps.length = n at *
  generalize ys.length = m at *
  by_cases he : E = 0
  · subst he
    have HM2 := hide (fun W hW => unhide HM W hW rfl)
    have HO2 := hide (fun W hW => unhide HO W hW rfl)
    obtain ⟨⟨k1, k2⟩, ⟨b1, b2⟩, ⟨b3, b4⟩, ⟨b5, b6⟩⟩ := unhide HK rfl
    simp only [if_pos]
    rw [ceV_eq (n := mx) ⟨by omega, by omega⟩ ⟨k1, k2⟩, ceV_eq (n := my) ⟨by omega, by omega⟩ ⟨k1, k2⟩, ceV_eq (n := mz) ⟨by omega, by omega⟩ ⟨k1, k2⟩]
    have HX := hide (fun W => r_Floor (mx + S) (2 * S) W (by omega) (by omega) (by omega) (by omega))
    have HY := hide (fun W => r_Floor (my + S) (2 * S) W (by omega) (by omega) (by omega) (by omega))
    have HZ := hide (fun W => r_Floor (mz + S) (2 * S) W (by omega) (by omega) (by omega) (by omega))
    generalize (mx + S) / (2 * S) = cx at *
    generalize (my + S) / (2 * S) = cy at *
    generalize (mz + S) / (2 * S) = cz at *
    have hw1 : IntKind.i64.wrap (mx + S) = mx + S := IntWalk.i64_in _ ⟨by omega, by omega⟩
    have hw2 : IntKind.i64.wrap (my + S) = my + S := IntWalk.i64_in _ ⟨by omega, by omega⟩
    have hw3 : IntKind.i64.wrap (mz + S) = mz + S := IntWalk.i64_in _ ⟨by omega, by omega⟩
    have hw4 : IntKind.i64.wrap (2 * S) = 2 * S := IntWalk.i64_in _ ⟨by omega, by omega⟩
    clear HM HO HK k1 k2 b1 b2 b3 b4 b5 b6
    go_enter Try.func59, Try.ntmps59
    go_upto_region 1 with fail
    refine at_wp (fun W0 hW0 => ?_)
    have t2 := bxm2 w [.string s, .slice A n capA, .slice B m capB, .int .i64 f] [.int .i64 0, .int .i64 0, .int .i64 0] 25 31
    have U0 : Up w W0 := by rw [hW0]; exact (by repeat' (first | (with_reducible exact up_refl _) | (with_reducible assumption) | (with_reducible refine up_alloc ?_ _) | (with_reducible refine up_drewN ?_ _) | (with_reducible refine up_drew ?_) | (with_reducible refine up_set ?_ (by first | (simp; done) | (simp; omega) | omega) _) | (refine up_trans ?_ (by with_reducible assumption))))
    have B0 : Bx W0 w.heap.size [.string s, .slice A n capA, .slice B m capB, .int .i64 f] := by rw [hW0]; exact t2.1
    have R0 : Bx W0 (w.heap.size + 1) [.int .i64 0, .int .i64 0, .int .i64 0] := by rw [hW0]; exact t2.2
    clear hW0 t2
    have c0 := (B0 0 _ rfl).1
    have c1 := (B0 1 _ rfl).1
    have c2 := (B0 2 _ rfl).1
    have c3 := (B0 3 _ rfl).1
    go_wp2_with (go_at_call 96; (with_reducible refine (unhide HC _ U0).mono ?_); rintro e w1 ⟨rfl, hb⟩)
    have U1 := up_trans U0 hb
    have B1 := bx_up B0 hb
    have R1 := bx_up R0 hb
    have zr := bx_lt R1 (by simp)
    clear hb c0 c1 c2 c3 B0 R0 U0 HC
    have c1 := (B1 1 _ rfl).1
    have HO4 := hide (fun W (hW : Up w1 W) => (unhide HO2 W (up_trans U1 hW)).mono fun e w' ⟨a, b⟩ => (⟨a, b, up_trans hW b⟩ : _ ∧ _ ∧ _))
    have HM4 := hide (fun W (hW : Up w1 W) => (unhide HM2 W (up_trans U1 hW)).mono fun e w' ⟨a, b⟩ => (⟨a, b, up_trans hW b⟩ : _ ∧ _ ∧ _))
    have HK := hide (fun W (hW : Up w1 W) => (⟨up_cell hW c1, hW⟩ : W.cell? ⟨w.heap.size, 1, none⟩ = some (.slice A n capA) ∧ Up w1 W))
    clear HO2 HM2
    go_cut [4, 5] (fun sa sb wx => ∃ g : Nat, sa = .pointer (some ⟨g, 0, none⟩) ∧ sb = .int .i64 S ∧ Bx wx g [.int .i64 mx, .int .i64 my, .int .i64 mz] ∧ w1.heap.size ≤ g ∧ Up w1 wx)
    case first =>
      have t1 := Nat.le_refl w1.heap.size
      clear U1 B1 R1 HX HY HZ
      go_region_held3 (fun wx => wx.cell? ⟨w.heap.size, 1, none⟩ = some (.slice A n capA) ∧ Up w1 wx) ((go_split_ands; exact unhide HK _ (by repeat' (first | (with_reducible exact up_refl _) | (with_reducible assumption) | (with_reducible refine up_alloc ?_ _) | (with_reducible refine up_drewN ?_ _) | (with_reducible refine up_drew ?_) | (with_reducible refine up_set ?_ (by first | (simp; done) | (simp; omega) | omega) _) | (refine up_trans ?_ (by with_reducible assumption))))))
        (first
          | (go_at_call 97; (with_reducible refine (unhide HO4 _ (by go_split_ands; exact (by repeat' (first | (with_reducible exact up_refl _) | (with_reducible assumption) | (with_reducible refine up_alloc ?_ _) | (with_reducible refine up_drewN ?_ _) | (with_reducible refine up_drew ?_) | (with_reducible refine up_set ?_ (by first | (simp; done) | (simp; omega) | omega) _) | (refine up_trans ?_ (by with_reducible assumption)))))).mono ?_); rintro e w2 ⟨rfl, hb2, hb2'⟩; have tw2 := up_size hb2'; have zm := bx_up zs hb2; obtain ⟨z3, z4, z5⟩ := bx3 zm; obtain ⟨f3, f4, f5⟩ := bxf3 zm)
          | (go_at_call 97; (with_reducible refine (unhide HO4 _ (by go_split_ands; exact (by repeat' (first | (with_reducible exact up_refl _) | (with_reducible assumption) | (with_reducible refine up_alloc ?_ _) | (with_reducible refine up_drewN ?_ _) | (with_reducible refine up_drew ?_) | (with_reducible refine up_set ?_ (by first | (simp; done) | (simp; omega) | omega) _) | (refine up_trans ?_ (by with_reducible assumption)))))).mono ?_); rintro e w2 ⟨rfl, hb2, hb2'⟩; have tw2 := up_size hb2'; have zm := bx_up (bx_new _ [.int .i64 0, .int .i64 0, .int .i64 0] 31) hb2; obtain ⟨z3, z4, z5⟩ := bx3 zm; obtain ⟨f3, f4, f5⟩ := bxf3 zm)
          | (go_at_call 97; (with_reducible refine (unhide HO4 _ (by go_split_ands; exact (by repeat' (first | (with_reducible exact up_refl _) | (with_reducible assumption) | (with_reducible refine up_alloc ?_ _) | (with_reducible refine up_drewN ?_ _) | (with_reducible refine up_drew ?_) | (with_reducible refine up_set ?_ (by first | (simp; done) | (simp; omega) | omega) _) | (refine up_trans ?_ (by with_reducible assumption)))))).mono ?_); rintro e w2 ⟨rfl, hb2, hb2'⟩; have tw2 := up_size hb2'; have zm := bx_up (bx_drew (bx_new _ [.int .i64 0, .int .i64 0, .int .i64 0] 31)) hb2; obtain ⟨z3, z4, z5⟩ := bx3 zm; obtain ⟨f3, f4, f5⟩ := bxf3 zm)
          | (go_at_call 97; (with_reducible refine (unhide HO4 _ (by go_split_ands; exact (by repeat' (first | (with_reducible exact up_refl _) | (with_reducible assumption) | (with_reducible refine up_alloc ?_ _) | (with_reducible refine up_drewN ?_ _) | (with_reducible refine up_drew ?_) | (with_reducible refine up_set ?_ (by first | (simp; done) | (simp; omega) | omega) _) | (refine up_trans ?_ (by with_reducible assumption)))))).mono ?_); rintro e w2 ⟨rfl, hb2, hb2'⟩; have tw2 := up_size hb2')
          | (go_at_call 98; (with_reducible refine (unhide HM4 _ (by go_split_ands; exact (by repeat' (first | (with_reducible exact up_refl _) | (with_reducible assumption) | (with_reducible refine up_alloc ?_ _) | (with_reducible refine up_drewN ?_ _) | (with_reducible refine up_drew ?_) | (with_reducible refine up_set ?_ (by first | (simp; done) | (simp; omega) | omega) _) | (refine up_trans ?_ (by with_reducible assumption)))))).mono ?_); rintro e w3 ⟨rfl, hb3, hb3'⟩; have tw3 := up_size hb3'; have zs := bx_up zm hb3; obtain ⟨z3, z4, z5⟩ := bx3 zs; obtain ⟨f3, f4, f5⟩ := bxf3 zs)
          | (go_at_call 98; (with_reducible refine (unhide HM4 _ (by go_split_ands; exact (by repeat' (first | (with_reducible exact up_refl _) | (with_reducible assumption) | (with_reducible refine up_alloc ?_ _) | (with_reducible refine up_drewN ?_ _) | (with_reducible refine up_drew ?_) | (with_reducible refine up_set ?_ (by first | (simp; done) | (simp; omega) | omega) _) | (refine up_trans ?_ (by with_reducible assumption)))))).mono ?_); rintro e w3 ⟨rfl, hb3, hb3'⟩; have tw3 := up_size hb3'; have zs := bx_up (bx_new _ [.int .i64 0, .int .i64 0, .int .i64 0] 31) hb3; obtain ⟨z3, z4, z5⟩ := bx3 zs; obtain ⟨f3, f4, f5⟩ := bxf3 zs)
          | (go_at_call 98; (with_reducible refine (unhide HM4 _ (by go_split_ands; exact (by repeat' (first | (with_reducible exact up_refl _) | (with_reducible assumption) | (with_reducible refine up_alloc ?_ _) | (with_reducible refine up_drewN ?_ _) | (with_reducible refine up_drew ?_) | (with_reducible refine up_set ?_ (by first | (simp; done) | (simp; omega) | omega) _) | (refine up_trans ?_ (by with_reducible assumption)))))).mono ?_); rintro e w3 ⟨rfl, hb3, hb3'⟩; have tw3 := up_size hb3'; have zs := bx_up (bx_drew (bx_new _ [.int .i64 0, .int .i64 0, .int .i64 0] 31)) hb3; obtain ⟨z3, z4, z5⟩ := bx3 zs; obtain ⟨f3, f4, f5⟩ := bxf3 zs)
          | (go_at_call 98; (with_reducible refine (unhide HM4 _ (by go_split_ands; exact (by repeat' (first | (with_reducible exact up_refl _) | (with_reducible assumption) | (with_reducible refine up_alloc ?_ _) | (with_reducible refine up_drewN ?_ _) | (with_reducible refine up_drew ?_) | (with_reducible refine up_set ?_ (by first | (simp; done) | (simp; omega) | omega) _) | (refine up_trans ?_ (by with_reducible assumption)))))).mono ?_); rintro e w3 ⟨rfl, hb3, hb3'⟩; have tw3 := up_size hb3'))
      all_goals
        have u2 : Up w1 w2 := hb2'
        have u3 : Up w1 w3 := hb3'
        go_wp2_with fail
        go_meet
        first
          | (refine ⟨w3.heap.size, by with_reducible rfl, rfl, ?_, tw3, (by repeat' (first | (with_reducible exact up_refl _) | (with_reducible assumption) | (with_reducible refine up_alloc ?_ _) | (with_reducible refine up_drewN ?_ _) | (with_reducible refine up_drew ?_) | (with_reducible refine up_set ?_ (by first | (simp; done) | (simp; omega) | omega) _) | (refine up_trans ?_ (by with_reducible assumption))))⟩; exact bx_new w3 _ 31)
          | (refine ⟨w2.heap.size, by with_reducible rfl, rfl, ?_, tw2, (by repeat' (first | (with_reducible exact up_refl _) | (with_reducible assumption) | (with_reducible refine up_alloc ?_ _) | (with_reducible refine up_drewN ?_ _) | (with_reducible refine up_drew ?_) | (with_reducible refine up_set ?_ (by first | (simp; done) | (simp; omega) | omega) _) | (refine up_trans ?_ (by with_reducible assumption))))⟩; exact bx_new w2 _ 31)
          | (refine ⟨w1.heap.size, by with_reducible rfl, rfl, ?_, Nat.le_refl _, (by repeat' (first | (with_reducible exact up_refl _) | (with_reducible assumption) | (with_reducible refine up_alloc ?_ _) | (with_reducible refine up_drewN ?_ _) | (with_reducible refine up_drew ?_) | (with_reducible refine up_set ?_ (by first | (simp; done) | (simp; omega) | omega) _) | (refine up_trans ?_ (by with_reducible assumption))))⟩; first | exact bx_set3 zm | exact bx_set3 zs)
          | (refine ⟨w2.heap.size, by with_reducible rfl, rfl, ?_, tw2, (by repeat' (first | (with_reducible exact up_refl _) | (with_reducible assumption) | (with_reducible refine up_alloc ?_ _) | (with_reducible refine up_drewN ?_ _) | (with_reducible refine up_drew ?_) | (with_reducible refine up_set ?_ (by first | (simp; done) | (simp; omega) | omega) _) | (refine up_trans ?_ (by with_reducible assumption))))⟩; exact bx_set3 zs)
          | (refine ⟨w3.heap.size, by with_reducible rfl, rfl, ?_, tw3, (by repeat' (first | (with_reducible exact up_refl _) | (with_reducible assumption) | (with_reducible refine up_alloc ?_ _) | (with_reducible refine up_drewN ?_ _) | (with_reducible refine up_drew ?_) | (with_reducible refine up_set ?_ (by first | (simp; done) | (simp; omega) | omega) _) | (refine up_trans ?_ (by with_reducible assumption))))⟩; exact bx_set3 zm)
    case rest =>
      obtain ⟨g, rfl, rfl, hG, hg, hu⟩ := hcut
      have Z0 := bx_up R1 hu
      have hU := up_trans U1 hu
      clear HO4 HM4 HK B1 R1 U1 c1 hu
      have gl := bx_lt hG (by simp)
      go_wp2_with fail
      refine at_wp (fun V0 hV0 => ?_)
      have o0 : Bx V0 wc.heap.size [.int .i64 0, .int .i64 0, .int .i64 0] := by rw [hV0]; exact bx_new wc _ 31
      have g0 : Bx V0 g [.int .i64 mx, .int .i64 my, .int .i64 mz] := by rw [hV0]; exact bx_alloc hG _
      have z0 : Bx V0 (w.heap.size + 1) [.int .i64 0, .int .i64 0, .int .i64 0] := by rw [hV0]; exact bx_alloc Z0 _
      have U0 : Up w V0 := by rw [hV0]; exact up_alloc hU _
      clear hV0 hG Z0 hU
      refine wp_loop_rounds 4 ?_
      obtain ⟨p0, p1, p2⟩ := bx3 g0
      obtain ⟨q0, q1, q2⟩ := bx3 o0
      obtain ⟨f0, f1, f2⟩ := bxf3 o0
      rw [rounds_succ]
      go_wp2_with (go_at_call 99; (with_reducible refine (unhide HX _).mono ?_); rintro e v1 ⟨rfl, rfl⟩)
      refine at_rounds (fun V1 hV1 => ?_)
      have o1 : Bx V1 wc.heap.size [.int .i64 cx, .int .i64 0, .int .i64 0] := by rw [hV1]; exact bx_set o0 0 _
      have g1 : Bx V1 g [.int .i64 mx, .int .i64 my, .int .i64 mz] := by rw [hV1]; exact bx_far g0 (by simp; omega) _
      have z1 : Bx V1 (w.heap.size + 1) [.int .i64 0, .int .i64 0, .int .i64 0] := by rw [hV1]; exact bx_far z0 (by simp; omega) _
      have U1 : Up w V1 := by rw [hV1]; exact up_set U0 (by simp; omega) _
      clear hV1 o0 g0 z0 U0 p0 p1 p2 q0 q1 q2 f0 f1 f2
      obtain ⟨p0, p1, p2⟩ := bx3 g1
      obtain ⟨q0, q1, q2⟩ := bx3 o1
      obtain ⟨f0, f1, f2⟩ := bxf3 o1
      rw [rounds_succ]
      go_wp2_with (go_at_call 99; (with_reducible refine (unhide HY _).mono ?_); rintro e v1 ⟨rfl, rfl⟩)
      refine at_rounds (fun V2 hV2 => ?_)
      have o2 : Bx V2 wc.heap.size [.int .i64 cx, .int .i64 cy, .int .i64 0] := by rw [hV2]; exact bx_set o1 1 _
      have g2 : Bx V2 g [.int .i64 mx, .int .i64 my, .int .i64 mz] := by rw [hV2]; exact bx_far g1 (by simp; omega) _
      have z2 : Bx V2 (w.heap.size + 1) [.int .i64 0, .int .i64 0, .int .i64 0] := by rw [hV2]; exact bx_far z1 (by simp; omega) _
      have U2 : Up w V2 := by rw [hV2]; exact up_set U1 (by simp; omega) _
      clear hV2 o1 g1 z1 U1 p0 p1 p2 q0 q1 q2 f0 f1 f2
      obtain ⟨p0, p1, p2⟩ := bx3 g2
      obtain ⟨q0, q1, q2⟩ := bx3 o2
      obtain ⟨f0, f1, f2⟩ := bxf3 o2
      rw [rounds_succ]
      go_wp2_with (go_at_call 99; (with_reducible refine (unhide HZ _).mono ?_); rintro e v1 ⟨rfl, rfl⟩)
      refine at_rounds (fun V3 hV3 => ?_)
      have o3 : Bx V3 wc.heap.size [.int .i64 cx, .int .i64 cy, .int .i64 cz] := by rw [hV3]; exact bx_set o2 2 _
      have g3 : Bx V3 g [.int .i64 mx, .int .i64 my, .int .i64 mz] := by rw [hV3]; exact bx_far g2 (by simp; omega) _
      have z3 : Bx V3 (w.heap.size + 1) [.int .i64 0, .int .i64 0, .int .i64 0] := by rw [hV3]; exact bx_far z2 (by simp; omega) _
      have U3 : Up w V3 := by rw [hV3]; exact up_set U2 (by simp; omega) _
      clear hV3 o2 g2 z2 U2 p0 p1 p2 q0 q1 q2 f0 f1 f2
      rw [rounds_succ]
      obtain ⟨d0, d1, d2⟩ := bx3 o3
      obtain ⟨r0, r1, r2⟩ := bx3 z3
      obtain ⟨f0, f1, f2⟩ := bxf3 z3
      go_wp2_with fail
      obtain ⟨W9, hW9⟩ : ∃ W9 : World, W9 = (((V3.setCell ⟨w.heap.size + 1, 0, none⟩ (.int .i64 cx)).setCell ⟨w.heap.size + 1, 1, none⟩ (.int .i64 cy)).setCell ⟨w.heap.size + 1, 2, none⟩ (.int .i64 cz)) := ⟨_, rfl⟩
      rw [← hW9]
      have B9 : Bx W9 (w.heap.size + 1) [.int .i64 cx, .int .i64 cy, .int .i64 cz] := by rw [hW9]; exact bx_set3 z3
      have U9 : Up w W9 := by rw [hW9]; exact up_set (up_set (up_set U3 (by simp) _) (by simp) _) (by simp) _
      clear hW9 r0 r1 r2 f0 f1 f2 d0 d1 d2
      obtain ⟨q0, q1, q2⟩ := bx3 B9
      refine bodyPost_ret (v := .tuple #[.agg #[.int .i64 cx, .int .i64 cy, .int .i64 cz], .int .i64 0]) (by simp [results, Try.results59, go_sem, q0, q1, q2]) rfl ⟨rfl, U9⟩
  · have t : (E == 0) = false := by simp [he]
    simp only [if_neg he]
    have HH := hide he
    clear he HM HO HK
    go_enter Try.func59, Try.ntmps59
    go_upto_region 1 with fail
    refine at_wp (fun W0 hW0 => ?_)
    have t2 := bxm2 w [.string s, .slice A n capA, .slice B m capB, .int .i64 f] [.int .i64 0, .int .i64 0, .int .i64 0] 25 31
    have U0 : Up w W0 := by rw [hW0]; exact (by repeat' (first | (with_reducible exact up_refl _) | (with_reducible assumption) | (with_reducible refine up_alloc ?_ _) | (with_reducible refine up_drewN ?_ _) | (with_reducible refine up_drew ?_) | (with_reducible refine up_set ?_ (by first | (simp; done) | (simp; omega) | omega) _) | (refine up_trans ?_ (by with_reducible assumption))))
    have B0 : Bx W0 w.heap.size [.string s, .slice A n capA, .slice B m capB, .int .i64 f] := by rw [hW0]; exact t2.1
    have R0 : Bx W0 (w.heap.size + 1) [.int .i64 0, .int .i64 0, .int .i64 0] := by rw [hW0]; exact t2.2
    clear hW0 t2
    have c0 := (B0 0 _ rfl).1
    have c1 := (B0 1 _ rfl).1
    have c2 := (B0 2 _ rfl).1
    have c3 := (B0 3 _ rfl).1
    go_wp2_with (go_at_call 96; (with_reducible refine (unhide HC _ (by first | exact U2 | exact U1 | exact U0)).mono ?_); rintro e w1 ⟨rfl, hb⟩; first | (have U2 := up_trans U1 hb; have R2 := bx_up R1 hb; obtain ⟨r0, r1, r2⟩ := bx3 R2; obtain ⟨f0, f1, f2⟩ := bxf3 R2) | (have U1 := up_trans U0 hb; have B1 := bx_up B0 hb; have R1 := bx_up R0 hb; have k0 := (B1 0 _ rfl).1; have k1 := (B1 1 _ rfl).1; have k2 := (B1 2 _ rfl).1; have k3 := (B1 3 _ rfl).1))
    obtain ⟨W9, hW9⟩ : ∃ W9 : World, W9 = (((w1.setCell ⟨w.heap.size + 1, 0, none⟩ (.int .i64 0)).setCell ⟨w.heap.size + 1, 1, none⟩ (.int .i64 0)).setCell ⟨w.heap.size + 1, 2, none⟩ (.int .i64 0)) := ⟨_, rfl⟩
    rw [← hW9]
    have B9 : Bx W9 (w.heap.size + 1) [.int .i64 0, .int .i64 0, .int .i64 0] := by rw [hW9]; exact bx_set3 R2
    have U9 : Up w W9 := by rw [hW9]; exact up_set (up_set (up_set U2 (by simp) _) (by simp) _) (by simp) _
    clear hW9 r0 r1 r2 f0 f1 f2
    obtain ⟨q0, q1, q2⟩ := bx3 B9
    refine bodyPost_ret (v := .tuple #[.agg #[.int .i64 0, .int .i64 0, .int .i64 0], .int .i64 E]) (by simp [results, Try.results59, go_sem, q0, q1, q2]) rfl ⟨rfl, U9⟩
end Go.Proofs.Ytgfehjhngmabeaa
