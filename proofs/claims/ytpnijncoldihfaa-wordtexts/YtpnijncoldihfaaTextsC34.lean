/-
  Division by any word.
-/
import Derived.Test.YtpnijncoldihfaaTextsC32
import Derived.Test.YtpnijncoldihfaaTextsC33
namespace Go.Proofs.Ytpnijncoldihfaa
open Go.RowKit Go.Shelf

theorem top_nonzero {Y k : Nat} (hlo : 18446744073709551616 ^ k ≤ Y) (hhi : Y < 18446744073709551616 ^ (k + 1)) : limb Y k ≠ 0 := by
  unfold limb
  rw [Nat.mod_eq_of_lt (by rw [Nat.div_lt_iff_lt_mul (Nat.pow_pos (by decide)), Nat.mul_comm, ← Nat.pow_succ]; exact hhi)]
  have := Nat.div_le_div_right (c := 18446744073709551616 ^ k) hlo
  rw [Nat.div_self (Nat.pow_pos (by decide))] at this
  omega

set_option maxHeartbeats 1000000 in
set_option maxRecDepth 100000 in
theorem divideWide_2 (N Y : Nat) (hN : N < 18446744073709551616 ^ 8) (hlo : 18446744073709551616 ^ 1 ≤ Y) (hhi : Y < 18446744073709551616 ^ 2) (w : World) :
    Calls Try.prog 102 #[w8 N, wv Y] w fun e w' => e = .returned (.tuple #[w8 (N / Y), wv (N % Y)]) ∧ Below w.heap.size w w' := by
  have hd := fun W => divideByLimbs_2 N Y hN hlo hhi W
  have hzt : ∀ j, 2 ≤ j → limb Y j = 0 := fun j hj => limb_high hhi hj
  have hnt : limb Y 1 ≠ 0 := top_nonzero hlo hhi
  obtain ⟨n0, n1, n2, n3, n4, n5, n6, n7, hN8⟩ := w8_form N
  obtain ⟨q0, q1, q2, q3, q4, q5, q6, q7, hQ8⟩ := w8_form (N / Y)
  obtain ⟨r0, r1, r2, r3, hR4⟩ := wv_form (N % Y)
  simp only [hN8, hQ8, hR4, wv_limb Y] at hd ⊢
  have hu := fun W (h : ∀ j, j < 4 → W.cell? ⟨w.heap.size + 1, j, none⟩ = some (.int .u64 (limb Y j))) => used_any W (w.heap.size + 1) 4 4 (limb Y) (by omega) h
  have HD := hideP hd
  have HU := hideP hu
  have HZT := hideP hzt
  have HNT := hideP hnt
  clear hN8 hQ8 hR4 hN hlo hhi hd hu hzt hnt
  go_enter Try.func102, Try.ntmps102
  go_wp2_with fail
  refine (HU.out _ (fun j hj => ?_)).mono ?_
  · match j, hj with
    | 0, _ => exact blk_cell (heap_y _ _ _ _ _) rfl
    | 1, _ => exact blk_cell (heap_y _ _ _ _ _) rfl
    | 2, _ => exact blk_cell (heap_y _ _ _ _ _) rfl
    | 3, _ => exact blk_cell (heap_y _ _ _ _ _) rfl
  rintro e W1 ⟨⟨k, rfl, hk, hz, hnz⟩, rfl⟩
  have hk1 : k = 2 := by
    have z := HZT.out
    have t := HNT.out
    rcases Nat.lt_trichotomy k 2 with h | h | h
    · exact absurd (hz 1 (by omega) (by omega)) t
    · exact h
    · exact absurd (z (k - 1) (by omega)) (hnz (by omega))
  subst hk1
  clear hz hnz hk
  go_wp2_with fail
  refine (HD.out _).mono ?_
  rintro e w1 ⟨rfl, hb⟩
  obtain ⟨hk8, ⟨a0, a1, a2, a3, a4, a5, a6, a7⟩, fa⟩ := kept8 hb (heap_q _ _ _ _ _)
  obtain ⟨hk4, b0, b1, b2, b3, fb0, fb1, fb2, fb3⟩ := kept4 hb (heap_new3 _ _ _ _ _)
  have hsz := hb.size
  simp only [World.size_alloc] at hsz
  have hlt : w.heap.size + 1 + 1 < w1.heap.size := by omega
  have hlt2 : w.heap.size + 1 + 1 + 1 < w1.heap.size := by omega
  have HB : Hid (Below w.heap.size w w1) := (((((Below.refl _ w).alloc (Nat.le_refl _) _).alloc (by simp) _).alloc (by simp <;> omega) _).alloc (by simp <;> omega) _).trans (hb.mono (by simp <;> omega))
  have H8 := hideP hk8
  have H4 := hideP hk4
  clear hb hk8 hk4 hsz
  go_wp2_with fail
  have g8 := stored8 (z0 := .int .u64 q0) (z1 := .int .u64 q1) (z2 := .int .u64 q2) (z3 := .int .u64 q3) (z4 := .int .u64 q4) (z5 := .int .u64 q5) (z6 := .int .u64 q6) (z7 := .int .u64 q7) H8.out
  have g4 := stored4 (z0 := .int .u64 r0) (z1 := .int .u64 r1) (z2 := .int .u64 r2) (z3 := .int .u64 r3) ((other8 (b := w.heap.size + 1 + 1) (c := w.heap.size + 1 + 1 + 1) (z0 := .int .u64 q0) (z1 := .int .u64 q1) (z2 := .int .u64 q2) (z3 := .int .u64 q3) (z4 := .int .u64 q4) (z5 := .int .u64 q5) (z6 := .int .u64 q6) (z7 := .int .u64 q7) (by omega)).trans H4.out)
  have g8' := (other4 (b := w.heap.size + 1 + 1 + 1) (c := w.heap.size + 1 + 1) (z0 := .int .u64 r0) (z1 := .int .u64 r1) (z2 := .int .u64 r2) (z3 := .int .u64 r3) (by omega)).trans g8
  have hbl := below_stored4 (b := w.heap.size + 1 + 1 + 1) (z0 := .int .u64 r0) (z1 := .int .u64 r1) (z2 := .int .u64 r2) (z3 := .int .u64 r3) (below_stored8 (b := w.heap.size + 1 + 1) (z0 := .int .u64 q0) (z1 := .int .u64 q1) (z2 := .int .u64 q2) (z3 := .int .u64 q3) (z4 := .int .u64 q4) (z5 := .int .u64 q5) (z6 := .int .u64 q6) (z7 := .int .u64 q7) HB.out (by omega)) (by omega)
  clear a0 a1 a2 a3 a4 a5 a6 a7 b0 b1 b2 b3 fb0 fb1 fb2 fb3 fa g8
  generalize ((((((((((((w1.setCell ⟨w.heap.size + 1 + 1, 0, none⟩ (.int .u64 q0)).setCell ⟨w.heap.size + 1 + 1, 1, none⟩ (.int .u64 q1)).setCell ⟨w.heap.size + 1 + 1, 2, none⟩ (.int .u64 q2)).setCell ⟨w.heap.size + 1 + 1, 3, none⟩ (.int .u64 q3)).setCell ⟨w.heap.size + 1 + 1, 4, none⟩ (.int .u64 q4)).setCell ⟨w.heap.size + 1 + 1, 5, none⟩ (.int .u64 q5)).setCell ⟨w.heap.size + 1 + 1, 6, none⟩ (.int .u64 q6)).setCell ⟨w.heap.size + 1 + 1, 7, none⟩ (.int .u64 q7)).setCell ⟨w.heap.size + 1 + 1 + 1, 0, none⟩ (.int .u64 r0)).setCell ⟨w.heap.size + 1 + 1 + 1, 1, none⟩ (.int .u64 r1)).setCell ⟨w.heap.size + 1 + 1 + 1, 2, none⟩ (.int .u64 r2)).setCell ⟨w.heap.size + 1 + 1 + 1, 3, none⟩ (.int .u64 r3)) = V at g4 g8' hbl ⊢
  obtain ⟨a0, a1, a2, a3, a4, a5, a6, a7⟩ := cells8 g8'
  obtain ⟨b0, b1, b2, b3⟩ := cells4 g4
  refine bodyPost_ret (v := .tuple #[.agg #[.int .u64 q0, .int .u64 q1, .int .u64 q2, .int .u64 q3, .int .u64 q4, .int .u64 q5, .int .u64 q6, .int .u64 q7], .agg #[.int .u64 r0, .int .u64 r1, .int .u64 r2, .int .u64 r3]]) (by simp [results, Try.results102, go_sem, a0, a1, a2, a3, a4, a5, a6, a7, b0, b1, b2, b3]) rfl ⟨rfl, hbl⟩

set_option maxHeartbeats 1000000 in
set_option maxRecDepth 100000 in
theorem divideWide_3 (N Y : Nat) (hN : N < 18446744073709551616 ^ 8) (hlo : 18446744073709551616 ^ 2 ≤ Y) (hhi : Y < 18446744073709551616 ^ 3) (w : World) :
    Calls Try.prog 102 #[w8 N, wv Y] w fun e w' => e = .returned (.tuple #[w8 (N / Y), wv (N % Y)]) ∧ Below w.heap.size w w' := by
  have hd := fun W => divideByLimbs_3 N Y hN hlo hhi W
  have hzt : ∀ j, 3 ≤ j → limb Y j = 0 := fun j hj => limb_high hhi hj
  have hnt : limb Y 2 ≠ 0 := top_nonzero hlo hhi
  obtain ⟨n0, n1, n2, n3, n4, n5, n6, n7, hN8⟩ := w8_form N
  obtain ⟨q0, q1, q2, q3, q4, q5, q6, q7, hQ8⟩ := w8_form (N / Y)
  obtain ⟨r0, r1, r2, r3, hR4⟩ := wv_form (N % Y)
  simp only [hN8, hQ8, hR4, wv_limb Y] at hd ⊢
  have hu := fun W (h : ∀ j, j < 4 → W.cell? ⟨w.heap.size + 1, j, none⟩ = some (.int .u64 (limb Y j))) => used_any W (w.heap.size + 1) 4 4 (limb Y) (by omega) h
  have HD := hideP hd
  have HU := hideP hu
  have HZT := hideP hzt
  have HNT := hideP hnt
  clear hN8 hQ8 hR4 hN hlo hhi hd hu hzt hnt
  go_enter Try.func102, Try.ntmps102
  go_wp2_with fail
  refine (HU.out _ (fun j hj => ?_)).mono ?_
  · match j, hj with
    | 0, _ => exact blk_cell (heap_y _ _ _ _ _) rfl
    | 1, _ => exact blk_cell (heap_y _ _ _ _ _) rfl
    | 2, _ => exact blk_cell (heap_y _ _ _ _ _) rfl
    | 3, _ => exact blk_cell (heap_y _ _ _ _ _) rfl
  rintro e W1 ⟨⟨k, rfl, hk, hz, hnz⟩, rfl⟩
  have hk1 : k = 3 := by
    have z := HZT.out
    have t := HNT.out
    rcases Nat.lt_trichotomy k 3 with h | h | h
    · exact absurd (hz 2 (by omega) (by omega)) t
    · exact h
    · exact absurd (z (k - 1) (by omega)) (hnz (by omega))
  subst hk1
  clear hz hnz hk
  go_wp2_with fail
  refine (HD.out _).mono ?_
  rintro e w1 ⟨rfl, hb⟩
  obtain ⟨hk8, ⟨a0, a1, a2, a3, a4, a5, a6, a7⟩, fa⟩ := kept8 hb (heap_q _ _ _ _ _)
  obtain ⟨hk4, b0, b1, b2, b3, fb0, fb1, fb2, fb3⟩ := kept4 hb (heap_new3 _ _ _ _ _)
  have hsz := hb.size
  simp only [World.size_alloc] at hsz
  have hlt : w.heap.size + 1 + 1 < w1.heap.size := by omega
  have hlt2 : w.heap.size + 1 + 1 + 1 < w1.heap.size := by omega
  have HB : Hid (Below w.heap.size w w1) := (((((Below.refl _ w).alloc (Nat.le_refl _) _).alloc (by simp) _).alloc (by simp <;> omega) _).alloc (by simp <;> omega) _).trans (hb.mono (by simp <;> omega))
  have H8 := hideP hk8
  have H4 := hideP hk4
  clear hb hk8 hk4 hsz
  go_wp2_with fail
  have g8 := stored8 (z0 := .int .u64 q0) (z1 := .int .u64 q1) (z2 := .int .u64 q2) (z3 := .int .u64 q3) (z4 := .int .u64 q4) (z5 := .int .u64 q5) (z6 := .int .u64 q6) (z7 := .int .u64 q7) H8.out
  have g4 := stored4 (z0 := .int .u64 r0) (z1 := .int .u64 r1) (z2 := .int .u64 r2) (z3 := .int .u64 r3) ((other8 (b := w.heap.size + 1 + 1) (c := w.heap.size + 1 + 1 + 1) (z0 := .int .u64 q0) (z1 := .int .u64 q1) (z2 := .int .u64 q2) (z3 := .int .u64 q3) (z4 := .int .u64 q4) (z5 := .int .u64 q5) (z6 := .int .u64 q6) (z7 := .int .u64 q7) (by omega)).trans H4.out)
  have g8' := (other4 (b := w.heap.size + 1 + 1 + 1) (c := w.heap.size + 1 + 1) (z0 := .int .u64 r0) (z1 := .int .u64 r1) (z2 := .int .u64 r2) (z3 := .int .u64 r3) (by omega)).trans g8
  have hbl := below_stored4 (b := w.heap.size + 1 + 1 + 1) (z0 := .int .u64 r0) (z1 := .int .u64 r1) (z2 := .int .u64 r2) (z3 := .int .u64 r3) (below_stored8 (b := w.heap.size + 1 + 1) (z0 := .int .u64 q0) (z1 := .int .u64 q1) (z2 := .int .u64 q2) (z3 := .int .u64 q3) (z4 := .int .u64 q4) (z5 := .int .u64 q5) (z6 := .int .u64 q6) (z7 := .int .u64 q7) HB.out (by omega)) (by omega)
  clear a0 a1 a2 a3 a4 a5 a6 a7 b0 b1 b2 b3 fb0 fb1 fb2 fb3 fa g8
  generalize ((((((((((((w1.setCell ⟨w.heap.size + 1 + 1, 0, none⟩ (.int .u64 q0)).setCell ⟨w.heap.size + 1 + 1, 1, none⟩ (.int .u64 q1)).setCell ⟨w.heap.size + 1 + 1, 2, none⟩ (.int .u64 q2)).setCell ⟨w.heap.size + 1 + 1, 3, none⟩ (.int .u64 q3)).setCell ⟨w.heap.size + 1 + 1, 4, none⟩ (.int .u64 q4)).setCell ⟨w.heap.size + 1 + 1, 5, none⟩ (.int .u64 q5)).setCell ⟨w.heap.size + 1 + 1, 6, none⟩ (.int .u64 q6)).setCell ⟨w.heap.size + 1 + 1, 7, none⟩ (.int .u64 q7)).setCell ⟨w.heap.size + 1 + 1 + 1, 0, none⟩ (.int .u64 r0)).setCell ⟨w.heap.size + 1 + 1 + 1, 1, none⟩ (.int .u64 r1)).setCell ⟨w.heap.size + 1 + 1 + 1, 2, none⟩ (.int .u64 r2)).setCell ⟨w.heap.size + 1 + 1 + 1, 3, none⟩ (.int .u64 r3)) = V at g4 g8' hbl ⊢
  obtain ⟨a0, a1, a2, a3, a4, a5, a6, a7⟩ := cells8 g8'
  obtain ⟨b0, b1, b2, b3⟩ := cells4 g4
  refine bodyPost_ret (v := .tuple #[.agg #[.int .u64 q0, .int .u64 q1, .int .u64 q2, .int .u64 q3, .int .u64 q4, .int .u64 q5, .int .u64 q6, .int .u64 q7], .agg #[.int .u64 r0, .int .u64 r1, .int .u64 r2, .int .u64 r3]]) (by simp [results, Try.results102, go_sem, a0, a1, a2, a3, a4, a5, a6, a7, b0, b1, b2, b3]) rfl ⟨rfl, hbl⟩

set_option maxHeartbeats 1000000 in
set_option maxRecDepth 100000 in
theorem divideWide_4 (N Y : Nat) (hN : N < 18446744073709551616 ^ 8) (hlo : 18446744073709551616 ^ 3 ≤ Y) (hhi : Y < 18446744073709551616 ^ 4) (w : World) :
    Calls Try.prog 102 #[w8 N, wv Y] w fun e w' => e = .returned (.tuple #[w8 (N / Y), wv (N % Y)]) ∧ Below w.heap.size w w' := by
  have hd := fun W => divideByLimbs_4 N Y hN hlo hhi W
  have hzt : ∀ j, 4 ≤ j → limb Y j = 0 := fun j hj => limb_high hhi hj
  have hnt : limb Y 3 ≠ 0 := top_nonzero hlo hhi
  obtain ⟨n0, n1, n2, n3, n4, n5, n6, n7, hN8⟩ := w8_form N
  obtain ⟨q0, q1, q2, q3, q4, q5, q6, q7, hQ8⟩ := w8_form (N / Y)
  obtain ⟨r0, r1, r2, r3, hR4⟩ := wv_form (N % Y)
  simp only [hN8, hQ8, hR4, wv_limb Y] at hd ⊢
  have hu := fun W (h : ∀ j, j < 4 → W.cell? ⟨w.heap.size + 1, j, none⟩ = some (.int .u64 (limb Y j))) => used_any W (w.heap.size + 1) 4 4 (limb Y) (by omega) h
  have HD := hideP hd
  have HU := hideP hu
  have HZT := hideP hzt
  have HNT := hideP hnt
  clear hN8 hQ8 hR4 hN hlo hhi hd hu hzt hnt
  go_enter Try.func102, Try.ntmps102
  go_wp2_with fail
  refine (HU.out _ (fun j hj => ?_)).mono ?_
  · match j, hj with
    | 0, _ => exact blk_cell (heap_y _ _ _ _ _) rfl
    | 1, _ => exact blk_cell (heap_y _ _ _ _ _) rfl
    | 2, _ => exact blk_cell (heap_y _ _ _ _ _) rfl
    | 3, _ => exact blk_cell (heap_y _ _ _ _ _) rfl
  rintro e W1 ⟨⟨k, rfl, hk, hz, hnz⟩, rfl⟩
  have hk1 : k = 4 := by
    have z := HZT.out
    have t := HNT.out
    rcases Nat.lt_trichotomy k 4 with h | h | h
    · exact absurd (hz 3 (by omega) (by omega)) t
    · exact h
    · exact absurd (z (k - 1) (by omega)) (hnz (by omega))
  subst hk1
  clear hz hnz hk
  go_wp2_with fail
  refine (HD.out _).mono ?_
  rintro e w1 ⟨rfl, hb⟩
  obtain ⟨hk8, ⟨a0, a1, a2, a3, a4, a5, a6, a7⟩, fa⟩ := kept8 hb (heap_q _ _ _ _ _)
  obtain ⟨hk4, b0, b1, b2, b3, fb0, fb1, fb2, fb3⟩ := kept4 hb (heap_new3 _ _ _ _ _)
  have hsz := hb.size
  simp only [World.size_alloc] at hsz
  have hlt : w.heap.size + 1 + 1 < w1.heap.size := by omega
  have hlt2 : w.heap.size + 1 + 1 + 1 < w1.heap.size := by omega
  have HB : Hid (Below w.heap.size w w1) := (((((Below.refl _ w).alloc (Nat.le_refl _) _).alloc (by simp) _).alloc (by simp <;> omega) _).alloc (by simp <;> omega) _).trans (hb.mono (by simp <;> omega))
  have H8 := hideP hk8
  have H4 := hideP hk4
  clear hb hk8 hk4 hsz
  go_wp2_with fail
  have g8 := stored8 (z0 := .int .u64 q0) (z1 := .int .u64 q1) (z2 := .int .u64 q2) (z3 := .int .u64 q3) (z4 := .int .u64 q4) (z5 := .int .u64 q5) (z6 := .int .u64 q6) (z7 := .int .u64 q7) H8.out
  have g4 := stored4 (z0 := .int .u64 r0) (z1 := .int .u64 r1) (z2 := .int .u64 r2) (z3 := .int .u64 r3) ((other8 (b := w.heap.size + 1 + 1) (c := w.heap.size + 1 + 1 + 1) (z0 := .int .u64 q0) (z1 := .int .u64 q1) (z2 := .int .u64 q2) (z3 := .int .u64 q3) (z4 := .int .u64 q4) (z5 := .int .u64 q5) (z6 := .int .u64 q6) (z7 := .int .u64 q7) (by omega)).trans H4.out)
  have g8' := (other4 (b := w.heap.size + 1 + 1 + 1) (c := w.heap.size + 1 + 1) (z0 := .int .u64 r0) (z1 := .int .u64 r1) (z2 := .int .u64 r2) (z3 := .int .u64 r3) (by omega)).trans g8
  have hbl := below_stored4 (b := w.heap.size + 1 + 1 + 1) (z0 := .int .u64 r0) (z1 := .int .u64 r1) (z2 := .int .u64 r2) (z3 := .int .u64 r3) (below_stored8 (b := w.heap.size + 1 + 1) (z0 := .int .u64 q0) (z1 := .int .u64 q1) (z2 := .int .u64 q2) (z3 := .int .u64 q3) (z4 := .int .u64 q4) (z5 := .int .u64 q5) (z6 := .int .u64 q6) (z7 := .int .u64 q7) HB.out (by omega)) (by omega)
  clear a0 a1 a2 a3 a4 a5 a6 a7 b0 b1 b2 b3 fb0 fb1 fb2 fb3 fa g8
  generalize ((((((((((((w1.setCell ⟨w.heap.size + 1 + 1, 0, none⟩ (.int .u64 q0)).setCell ⟨w.heap.size + 1 + 1, 1, none⟩ (.int .u64 q1)).setCell ⟨w.heap.size + 1 + 1, 2, none⟩ (.int .u64 q2)).setCell ⟨w.heap.size + 1 + 1, 3, none⟩ (.int .u64 q3)).setCell ⟨w.heap.size + 1 + 1, 4, none⟩ (.int .u64 q4)).setCell ⟨w.heap.size + 1 + 1, 5, none⟩ (.int .u64 q5)).setCell ⟨w.heap.size + 1 + 1, 6, none⟩ (.int .u64 q6)).setCell ⟨w.heap.size + 1 + 1, 7, none⟩ (.int .u64 q7)).setCell ⟨w.heap.size + 1 + 1 + 1, 0, none⟩ (.int .u64 r0)).setCell ⟨w.heap.size + 1 + 1 + 1, 1, none⟩ (.int .u64 r1)).setCell ⟨w.heap.size + 1 + 1 + 1, 2, none⟩ (.int .u64 r2)).setCell ⟨w.heap.size + 1 + 1 + 1, 3, none⟩ (.int .u64 r3)) = V at g4 g8' hbl ⊢
  obtain ⟨a0, a1, a2, a3, a4, a5, a6, a7⟩ := cells8 g8'
  obtain ⟨b0, b1, b2, b3⟩ := cells4 g4
  refine bodyPost_ret (v := .tuple #[.agg #[.int .u64 q0, .int .u64 q1, .int .u64 q2, .int .u64 q3, .int .u64 q4, .int .u64 q5, .int .u64 q6, .int .u64 q7], .agg #[.int .u64 r0, .int .u64 r1, .int .u64 r2, .int .u64 r3]]) (by simp [results, Try.results102, go_sem, a0, a1, a2, a3, a4, a5, a6, a7, b0, b1, b2, b3]) rfl ⟨rfl, hbl⟩

/-- What is left: 0, if the divisor is 0. -/
def restN (N Y : Nat) : Nat := if Y = 0 then 0 else N % Y

set_option maxHeartbeats 1000000 in
set_option maxRecDepth 100000 in
theorem divideWide_0 (N : Nat) (w : World) :
    Calls Try.prog 102 #[w8 N, wv 0] w fun e w' => e = .returned (.tuple #[w8 0, wv 0]) ∧ Below w.heap.size w w' := by
  obtain ⟨n0, n1, n2, n3, n4, n5, n6, n7, hN8⟩ := w8_form N
  have hz8 : w8 0 = .agg #[.int .u64 0, .int .u64 0, .int .u64 0, .int .u64 0, .int .u64 0, .int .u64 0, .int .u64 0, .int .u64 0] := by kernel_rfl
  have hz4 : wv 0 = .agg #[.int .u64 0, .int .u64 0, .int .u64 0, .int .u64 0] := rfl
  simp only [hN8, hz8, hz4]
  have hu := fun W (h : ∀ j, j < 4 → W.cell? ⟨w.heap.size + 1, j, none⟩ = some (.int .u64 ((0 : Nat) : Int))) => used_any W (w.heap.size + 1) 4 4 (fun _ => 0) (by omega) h
  have HU := hideP hu
  clear hN8 hu hz8 hz4
  go_enter Try.func102, Try.ntmps102
  go_wp2_with fail
  refine (HU.out _ (fun j hj => ?_)).mono ?_
  · match j, hj with
    | 0, _ => exact blk_cell (heap_y _ _ _ _ _) rfl
    | 1, _ => exact blk_cell (heap_y _ _ _ _ _) rfl
    | 2, _ => exact blk_cell (heap_y _ _ _ _ _) rfl
    | 3, _ => exact blk_cell (heap_y _ _ _ _ _) rfl
  rintro e W1 ⟨⟨k, rfl, hk, hz, hnz⟩, rfl⟩
  have hk1 : k = 0 := by
    rcases Nat.eq_zero_or_pos k with h | h
    · exact h
    · exact absurd rfl (hnz h)
  subst hk1
  clear hz hnz hk
  go_wp2
  refine bodyPost_ret (v := .tuple #[.agg #[.int .u64 0, .int .u64 0, .int .u64 0, .int .u64 0, .int .u64 0, .int .u64 0, .int .u64 0, .int .u64 0], .agg #[.int .u64 0, .int .u64 0, .int .u64 0, .int .u64 0]]) (by simp [results, Try.results102, go_sem]) rfl ⟨rfl, ?_⟩
  repeat first | exact Below.refl _ _ | apply Below.drew | (refine Below.alloc ?_ (by simp <;> omega) _) | (refine Below.setCell ?_ (by simp <;> omega) _)

theorem divideWide_any (N Y : Nat) (hN : N < 18446744073709551616 ^ 8) (w : World) :
    Calls Try.prog 102 #[w8 N, wv Y] w fun e w' => e = .returned (.tuple #[w8 (N / (Y % M256)), wv (restN N (Y % M256))]) ∧ Below w.heap.size w w' := by
  rw [← wv_mod Y]
  have hY : Y % M256 < 18446744073709551616 ^ 4 := Nat.lt_of_lt_of_le (Nat.mod_lt _ M256_pos) (by decide)
  generalize Y % M256 = Z at hY ⊢
  unfold restN
  by_cases h0 : Z = 0
  · subst h0
    rw [if_pos rfl, Nat.div_zero]
    exact divideWide_0 N w
  · rw [if_neg h0]
    by_cases h1 : Z < 18446744073709551616 ^ 1
    · exact divideWide_small N Z hN (by omega) (by rwa [Nat.pow_one] at h1) w
    · by_cases h2 : Z < 18446744073709551616 ^ 2
      · exact divideWide_2 N Z hN (Nat.not_lt.1 h1) h2 w
      · by_cases h3 : Z < 18446744073709551616 ^ 3
        · exact divideWide_3 N Z hN (Nat.not_lt.1 h2) h3 w
        · exact divideWide_4 N Z hN (Nat.not_lt.1 h3) hY w

end Go.Proofs.Ytpnijncoldihfaa
