/- Boxes as pieces: numbers; the mass of a load of boxes; what the carrier's axles carry. -/
import Derived.Test.YthifcalemhpmoaaGreatPkCarP
import Derived.Test.YthifcalemhpmoaaGreatPkBrS
import Derived.Test.YthifcalemhpmoaaGreatPkChMass
namespace Go.Proofs.YthifcalemhpmoaaGreat
open Go.RowKit Go.Proofs.Gn
set_option linter.unusedVariables false
theorem bxes_up {W W' : World} {A : Option Addr} {bs : List Bxe} (h : Bxes W A bs) (hu : Up W W') : Bxes W' A bs := by
  rcases h with h | ⟨b, off, e, hc⟩
  · exact .inl h
  · refine .inr ⟨b, off, e, fun k hk => ?_⟩
    obtain ⟨a0, a1, a2, a3, a4, a5, a6⟩ := hc k hk
    exact ⟨up_cell hu a0, up_cell hu a1, up_cell hu a2, up_cell hu a3, up_cell hu a4, up_cell hu a5, up_cell hu a6⟩
theorem cgP_ok {b : Bxe} (h : okBxe b) : okP (cgP b) = true := by
  obtain ⟨h0, h1, h2, h3, h4, h5, h6⟩ := h
  rw [okP_iff]
  unfold okPp cgP
  dsimp only
  omega
theorem cgL_ok {bs : List Bxe} (hb : ∀ k (h : k < bs.length), okBxe bs[k]) : okPs (cgL bs) = true := by
  unfold okPs cgL
  rw [List.all_eq_true]
  intro p hp
  obtain ⟨b, hbm, rfl⟩ := List.mem_map.1 hp
  obtain ⟨k, hk, rfl⟩ := List.mem_iff_getElem.1 (List.mem_of_mem_take hbm)
  exact cgP_ok (hb k hk)
theorem mas_small {l : List Pce} (h : ∀ p ∈ l, 1 ≤ p.m ∧ p.m ≤ 8000) : l.length ≤ mas l ∧ mas l ≤ 8000 * l.length := by
  induction l with
  | nil => simp [mas]
  | cons p l ih =>
    have a := h p (by simp)
    have b := ih (fun q hq => h q (by simp [hq]))
    simp only [mas, List.length_cons]
    omega
theorem cgL_len (bs : List Bxe) : (cgL bs).length ≤ 4 ∧ (bs ≠ [] → 1 ≤ (cgL bs).length) := by
  unfold cgL
  rw [List.length_map, List.length_take]
  refine ⟨by omega, fun h => ?_⟩
  have := List.length_pos_iff.2 h
  omega
theorem cgL_mas {bs : List Bxe} (hb : ∀ k (h : k < bs.length), okBxe bs[k]) : (cgL bs).length ≤ mas (cgL bs) ∧ mas (cgL bs) ≤ 8000 * (cgL bs).length := by
  refine mas_small fun p hp => ?_
  unfold cgL at hp
  obtain ⟨b, hbm, rfl⟩ := List.mem_map.1 hp
  obtain ⟨k, hk, rfl⟩ := List.mem_iff_getElem.1 (List.mem_of_mem_take hbm)
  obtain ⟨_, _, _, _, _, _, h6⟩ := hb k hk
  unfold cgP
  dsimp only
  omega
theorem nm_cgN : nmS cgN = true := by decide +kernel
theorem cg_lo0 {bs : List Bxe} (hb : ∀ k (h : k < bs.length), okBxe bs[k]) (h0 : bs ≠ []) : loE cgN (cgL bs) [] 300 = 0 := by
  have h1 := cgL_len bs
  have h2 := cgL_mas hb
  have h3 := h1.2 h0
  unfold loE
  rw [if_pos ⟨h3, by omega, by simp⟩, if_pos ⟨nm_cgN, by decide, by rw [cgL_ok hb]; rfl, (win_iff _ _ _).2 (by omega)⟩]
theorem cg_lo6 : loE cgN (cgL []) [] 300 = 6 := by
  unfold loE
  rw [if_neg (by simp [cgL])]
/-- Mass of a load of boxes. -/
theorem p_massC (bs : List Bxe) (hb : ∀ k (h : k < bs.length), okBxe bs[k]) (h0 : bs ≠ []) (P : Option Addr) (cp : Nat) (w : World) (h : Pcs w P (cgL bs)) :
    Calls Tryz.prog 10 #[loV cgN P (cgL bs).length cp none 0 0 300] w fun e w' => e = .returned (.tuple #[.int .i64 (mas (cgL bs)), .int .i64 0]) ∧ Up w w' := by
  have q := p_MassL cgN P (cgL bs) cp none [] 0 300 w h (.inl rfl) (by have := cgL_len bs; omega) (by simp)
  unfold loM at q
  rw [cg_lo0 hb h0, if_pos rfl] at q
  exact q
theorem p_massC0 (P : Option Addr) (cp : Nat) (w : World) :
    Calls Tryz.prog 10 #[loV cgN P 0 cp none 0 0 300] w fun e w' => e = .returned (.tuple #[.int .i64 0, .int .i64 6]) ∧ Up w w' := by
  have q := p_MassL cgN P (cgL []) cp none [] 0 300 w (.inl rfl) (.inl rfl) (by simp [cgL]) (by simp)
  unfold loM at q
  rw [cg_lo6, if_neg (by decide)] at q
  exact q
theorem cr_ok0 (A B : Option Addr) : veE crN (crU A B) 0 1 = 0 := by
  have h1 : nmS crN = true := by decide +kernel
  have h2 : tmV (crU A B) = false := rfl
  have h3 : auV (crU A B) = true := rfl
  unfold veE
  rw [h1, h2, h3]
  rfl
/-- What an axle of a unit carries. -/
def cei (n d : Int) : Int := -(n * -1 / d)
theorem cr_e0 (A B : Option Addr) (f t : Nat) (m P Q : Int) : eaV (crU A B) f t m P Q 0 = cei (9000 + caI f t m P Q 0) 2 := rfl
theorem cr_e1 (A B : Option Addr) (f t : Nat) (m P Q : Int) : eaV (crU A B) f t m P Q 1 = cei (7000 + caI f t m P Q 1) 3 := rfl
theorem cr_n0 (A B : Option Addr) (f t : Nat) (m P Q : Int) : eaN (crU A B) f t m P Q 0 = (decide (8000 < eaV (crU A B) f t m P Q 0) || decide (12000 < eaV (crU A B) f t m P Q 0)) := by
  show heX _ [⟨0, 8000, 2⟩, ⟨3000, 12000, 4⟩] = _
  simp [heX]
theorem cr_n1 (A B : Option Addr) (f t : Nat) (m P Q : Int) : eaN (crU A B) f t m P Q 1 = decide (12000 < eaV (crU A B) f t m P Q 1) := by
  show heX _ [⟨5000, 12000, 8⟩, ⟨6000, 12000, 8⟩, ⟨7000, 12000, 8⟩] = _
  simp [heX]
/-- The axles of the carrier that bears a load (on the trailer alone). -/
theorem p_crAxles (C A B : Option Addr) (m u : Int) (hm : 1 ≤ m ∧ m ≤ 29000) (hu : 0 ≤ u ∧ u ≤ 6000) (w : World) (h : Unts w C (crU A B)) :
    Calls Tryz.prog 28 #[veV crN C 2 2 1 1, .int .i64 m, .int .i64 6000, .int .i64 u] w fun e w' => (∃ A' c', e = .returned (.tuple #[.slice A' 2 c', .int .i64 0]) ∧ Ints w' A' [4500, cei (7000 + m) 3]) ∧ Up w w' := by
  have hK : Fsn 2 (eaN (crU A B) 1 1 m (up m 6000 (6000 - u)) (up m 6000 u)) 2 := by
    refine ⟨by omega, fun j hj => ?_, fun h => by omega⟩
    match j, hj with
    | 0, _ =>
      rw [cr_n0, cr_e0]
      unfold caI cei
      simp
    | 1, _ =>
      rw [cr_n1, cr_e1]
      unfold caI cei
      rw [if_pos rfl, if_pos rfl]
      exact decide_eq_false (by omega)
  have q := p_Axles crN C (crU A B) 2 1 1 m 6000 u 2 hK w h (by show 2 ≤ _; omega)
  have hF : axF (veE crN (crU A B) 1 1) m 6000 u (crU A B).length 2 = 0 := by
    unfold axF
    rw [cr_ok, if_pos rfl]
    unfold msE
    rw [(win_iff m 1 16777216).2 (by omega), if_pos rfl, if_pos rfl, if_pos (by decide), (win_iff u 0 6000).2 (by omega), if_pos rfl]
    rfl
  have hL : axLs (veE crN (crU A B) 1 1) (crU A B) (1 : Int).toNat (1 : Int).toNat m 6000 u 2 = [4500, cei (7000 + m) 3] := by
    unfold axLs
    rw [if_pos hF]
    unfold axR
    show [eaV (crU A B) 1 1 m (up m 6000 (6000 - u)) (up m 6000 u) 0, eaV (crU A B) 1 1 m (up m 6000 (6000 - u)) (up m 6000 u) 1] = _
    rw [cr_e0, cr_e1]
    unfold caI
    rw [if_pos rfl, if_pos rfl, if_pos rfl, if_neg (by decide)]
    rfl
  rw [hF, hL] at q
  exact q
theorem p_crAxles14 (C A B : Option Addr) (m u : Int) (hm : 29000 < m ∧ m ≤ 32000) (hu : 0 ≤ u ∧ u ≤ 6000) (w : World) (h : Unts w C (crU A B)) :
    Calls Tryz.prog 28 #[veV crN C 2 2 1 1, .int .i64 m, .int .i64 6000, .int .i64 u] w fun e w' => (∃ A' c', e = .returned (.tuple #[.slice A' 0 c', .int .i64 14])) ∧ Up w w' := by
  have hK : Fsn 2 (eaN (crU A B) 1 1 m (up m 6000 (6000 - u)) (up m 6000 u)) 1 := by
    refine ⟨by omega, fun j hj => ?_, fun _ => ?_⟩
    · obtain rfl : j = 0 := by omega
      rw [cr_n0, cr_e0]
      unfold caI cei
      simp
    · rw [cr_n1, cr_e1]
      unfold caI cei
      rw [if_pos rfl, if_pos rfl]
      exact decide_eq_true (by omega)
  have q := p_Axles crN C (crU A B) 2 1 1 m 6000 u 1 hK w h (by show 2 ≤ _; omega)
  have hF : axF (veE crN (crU A B) 1 1) m 6000 u (crU A B).length 1 = 14 := by
    unfold axF
    rw [cr_ok, if_pos rfl]
    unfold msE
    rw [(win_iff m 1 16777216).2 (by omega), if_pos rfl, if_pos rfl, if_pos (by decide), (win_iff u 0 6000).2 (by omega), if_pos rfl]
    rfl
  have hL : axLs (veE crN (crU A B) 1 1) (crU A B) (1 : Int).toNat (1 : Int).toNat m 6000 u 1 = [] := by
    unfold axLs
    rw [if_neg (by rw [hF]; decide)]
  rw [hF, hL] at q
  exact q.mono fun e w' ⟨⟨A', c', he, _⟩, hw⟩ => ⟨⟨A', c', he⟩, hw⟩
/-- The axles of the carrier, the load on the trailer (f = 1) or on both units (f = 0). -/
def cra0 (f m u : Int) : Int := cei (9000 + (if f = 0 then up m 6000 (6000 - u) else 0)) 2
def cra1 (f m u : Int) : Int := cei (7000 + (if f = 0 then up m 6000 u else m)) 3
theorem up_specT (n d t : Int) (hd : 0 < d) : n * t ≤ d * up n d t ∧ d * up n d t < n * t + d := by
  unfold up
  have h := Int.mul_ediv_add_emod (n * -t) d
  have h1 := Int.emod_nonneg (n * -t) (show d ≠ 0 by omega)
  have h2 := Int.emod_lt_of_pos (n * -t) hd
  rw [Int.mul_neg] at h h1 h2 ⊢
  rw [Int.mul_neg]
  generalize n * t = x at *
  generalize -x / d = y at *
  generalize -x % d = z at *
  generalize d * y = k at *
  omega
theorem up_monoT {n n' d t : Int} (hd : 0 < d) (ht : 0 ≤ t) (h : n' ≤ n) : up n' d t ≤ up n d t := by
  have a := up_specT n d t hd
  have b := up_specT n' d t hd
  have c := Int.mul_le_mul_of_nonneg_right h ht
  generalize up n d t = x at *
  generalize up n' d t = y at *
  have : d * y < d * x + d := by omega
  have : y < x + 1 := by
    refine Int.lt_of_mul_lt_mul_left (a := d) ?_ (by omega)
    rw [Int.mul_add, Int.mul_one]
    exact this
  omega
theorem cra_sum {f m u : Int} (hf : f = 0 ∨ f = 1) (hm : 1 ≤ m ∧ m ≤ 32000) (hu : 0 ≤ u ∧ u ≤ 6000) :
    (16000 + m ≤ 2 * cra0 f m u + 3 * cra1 f m u ∧ 2 * cra0 f m u + 3 * cra1 f m u ≤ 16000 + m + 4) ∧ (0 ≤ cra0 f m u ∧ cra0 f m u ≤ 50000) ∧ (0 ≤ cra1 f m u ∧ cra1 f m u ≤ 50000) := by
  unfold cra0 cra1 cei
  rcases hf with rfl | rfl
  · rw [if_pos rfl, if_pos rfl]
    have a := up_specT m 6000 (6000 - u) (by omega)
    have b := up_specT m 6000 u (by omega)
    have c : m * (6000 - u) = 6000 * m - m * u := by rw [Int.mul_sub, Int.mul_comm m 6000]
    have d : 0 ≤ m * u := Int.mul_nonneg (by omega) hu.1
    have e : m * u ≤ m * 6000 := Int.mul_le_mul_of_nonneg_left hu.2 (by omega)
    rw [c] at a
    generalize up m 6000 (6000 - u) = P at *
    generalize up m 6000 u = Q at *
    generalize m * u = x at *
    omega
  · rw [if_neg (by decide), if_neg (by decide)]
    omega
theorem cra_mono {f m m' u : Int} (hf : f = 0 ∨ f = 1) (h : m' ≤ m) (hu : 0 ≤ u ∧ u ≤ 6000) : cra0 f m' u ≤ cra0 f m u ∧ cra1 f m' u ≤ cra1 f m u := by
  unfold cra0 cra1 cei
  rcases hf with rfl | rfl
  · rw [if_pos rfl, if_pos rfl, if_pos rfl, if_pos rfl]
    have a := up_monoT (n := m) (n' := m') (d := 6000) (t := 6000 - u) (by omega) (by omega) h
    have b := up_monoT (n := m) (n' := m') (d := 6000) (t := u) (by omega) (by omega) h
    omega
  · rw [if_neg (by decide), if_neg (by decide), if_neg (by decide), if_neg (by decide)]
    omega
theorem cra_e (A B : Option Addr) {f : Int} (hf : f = 0 ∨ f = 1) (m u : Int) : eaV (crU A B) f.toNat (1 : Int).toNat m (up m 6000 (6000 - u)) (up m 6000 u) 0 = cra0 f m u ∧ eaV (crU A B) f.toNat (1 : Int).toNat m (up m 6000 (6000 - u)) (up m 6000 u) 1 = cra1 f m u := by
  rw [cr_e0, cr_e1]
  rcases hf with rfl | rfl
  · exact ⟨rfl, rfl⟩
  · exact ⟨rfl, rfl⟩
theorem cr_okf (A B : Option Addr) {f : Int} (hf : f = 0 ∨ f = 1) : veE crN (crU A B) f 1 = 0 := by
  rcases hf with rfl | rfl
  · exact cr_ok0 A B
  · exact cr_ok A B
theorem cra_F {A B : Option Addr} {f : Int} (hf : f = 0 ∨ f = 1) {m u : Int} (hm : 1 ≤ m ∧ m ≤ 32000) (hu : 0 ≤ u ∧ u ≤ 6000) (K : Nat) : axF (veE crN (crU A B) f 1) m 6000 u (crU A B).length K = if K < 2 then 14 else 0 := by
  unfold axF
  rw [cr_okf A B hf, if_pos rfl]
  unfold msE
  rw [(win_iff m 1 16777216).2 (by omega), if_pos rfl, if_pos rfl, if_pos (by decide), (win_iff u 0 6000).2 (by omega), if_pos rfl]
  rfl
theorem p_crAx (C A B : Option Addr) (f m u : Int) (hf : f = 0 ∨ f = 1) (hm : 1 ≤ m ∧ m ≤ 32000) (hu : 0 ≤ u ∧ u ≤ 6000) (hk : cra0 f m u ≤ 8000 ∧ cra1 f m u ≤ 12000) (w : World) (h : Unts w C (crU A B)) :
    Calls Tryz.prog 28 #[veV crN C 2 2 f 1, .int .i64 m, .int .i64 6000, .int .i64 u] w fun e w' => (∃ A' c', e = .returned (.tuple #[.slice A' 2 c', .int .i64 0]) ∧ Ints w' A' [cra0 f m u, cra1 f m u]) ∧ Up w w' := by
  have he := cra_e A B hf m u
  have hK : Fsn 2 (eaN (crU A B) f.toNat (1 : Int).toNat m (up m 6000 (6000 - u)) (up m 6000 u)) 2 := by
    refine ⟨by omega, fun j hj => ?_, fun h => by omega⟩
    match j, hj with
    | 0, _ =>
      rw [cr_n0, he.1, decide_eq_false (by omega), decide_eq_false (by omega)]
      rfl
    | 1, _ =>
      rw [cr_n1, he.2, decide_eq_false (by omega)]
  have q := p_Axles crN C (crU A B) 2 f 1 m 6000 u 2 hK w h (by show 2 ≤ _; omega)
  have hF := cra_F (A := A) (B := B) hf hm hu 2
  rw [if_neg (by omega)] at hF
  have hL : axLs (veE crN (crU A B) f 1) (crU A B) f.toNat (1 : Int).toNat m 6000 u 2 = [cra0 f m u, cra1 f m u] := by
    unfold axLs
    rw [if_pos hF]
    unfold axR
    show [eaV (crU A B) f.toNat (1 : Int).toNat m (up m 6000 (6000 - u)) (up m 6000 u) 0, eaV (crU A B) f.toNat (1 : Int).toNat m (up m 6000 (6000 - u)) (up m 6000 u) 1] = _
    rw [he.1, he.2]
  rw [hF, hL] at q
  exact q
theorem p_crAxN (C A B : Option Addr) (f m u : Int) (hf : f = 0 ∨ f = 1) (hm : 1 ≤ m ∧ m ≤ 32000) (hu : 0 ≤ u ∧ u ≤ 6000) (hk : ¬ (cra0 f m u ≤ 8000 ∧ cra1 f m u ≤ 12000)) (w : World) (h : Unts w C (crU A B)) :
    Calls Tryz.prog 28 #[veV crN C 2 2 f 1, .int .i64 m, .int .i64 6000, .int .i64 u] w fun e w' => (∃ A' c', e = .returned (.tuple #[.slice A' 0 c', .int .i64 14])) ∧ Up w w' := by
  have he := cra_e A B hf m u
  obtain ⟨K, hK2, hK⟩ : ∃ K, K < 2 ∧ Fsn 2 (eaN (crU A B) f.toNat (1 : Int).toNat m (up m 6000 (6000 - u)) (up m 6000 u)) K := by
    by_cases h0 : cra0 f m u ≤ 8000
    · refine ⟨1, by omega, by omega, fun j hj => ?_, fun _ => ?_⟩
      · obtain rfl : j = 0 := by omega
        rw [cr_n0, he.1, decide_eq_false (by omega), decide_eq_false (by omega)]
        rfl
      · rw [cr_n1, he.2, decide_eq_true (by omega)]
    · refine ⟨0, by omega, by omega, fun j hj => by omega, fun _ => ?_⟩
      rw [cr_n0, he.1, decide_eq_true (by omega)]
      rfl
  have q := p_Axles crN C (crU A B) 2 f 1 m 6000 u K hK w h (by show 2 ≤ _; omega)
  have hF := cra_F (A := A) (B := B) hf hm hu K
  rw [if_pos hK2] at hF
  have hL : axLs (veE crN (crU A B) f 1) (crU A B) f.toNat (1 : Int).toNat m 6000 u K = [] := by
    unfold axLs
    rw [if_neg (by rw [hF]; decide)]
  rw [hF, hL] at q
  exact q.mono fun e w' ⟨⟨A', c', he, _⟩, hw⟩ => ⟨⟨A', c', he⟩, hw⟩
end Go.Proofs.YthifcalemhpmoaaGreat
