/-
  Prices by words and bytes: copies, hashes, logs, powers.
-/
import Derived.Test.YtaeadndihchbnaaDoorGasPricesC12
namespace Go.Proofs.YtaeadndihchbnaaDoor
open Go.RowKit Go.Shelf

theorem memOf_in {X : Nat} (h : X % M256 ≤ 8388608) : memOf X = (X % M256, 0) := if_pos h

theorem memOf_out {X : Nat} (h : ¬ X % M256 ≤ 8388608) : memOf X = (0, 140) := if_neg h

/-- So much for each word of a length. -/
def byN (p X : Nat) : Nat × Int := if X % M256 ≤ 8388608 then (p * wds (X % M256), 0) else (0, 140)

theorem smallN_in {X : Nat} (h : X % M256 ≤ 8388608) : smallN X 8388609 = X % M256 := by unfold smallN; rw [if_pos (by omega)]

theorem smallN_out {X : Nat} (h : ¬ X % M256 ≤ 8388608) : smallN X 8388609 = 8388609 := by unfold smallN; rw [if_neg (by omega)]

set_option maxHeartbeats 2000000 in
set_option maxRecDepth 100000 in
theorem byWords_any (p X : Nat) (hp : p ≤ 6) (w : World) : Calls Tryd.prog 67 #[.int .u64 p, wv X] w fun e w' => e = .returned (.tuple #[.int .u64 (byN p X).1, .int .i64 (byN p X).2]) ∧ Below w.heap.size w w' := by
  obtain ⟨x0, x1, x2, x3, hX⟩ := wv_form X
  have hc := fun W => inMemory_any X W
  by_cases h : X % M256 ≤ 8388608
  · have e1 : IntKind.u64.wrap ((p : Int) * (wds (X % M256) : Int)) = (p : Int) * (wds (X % M256) : Int) := by
      have h1 := Nat.mul_le_mul hp (wds_le h)
      rw [← Int.natCast_mul, IntKind.wrap_u64]; omega
    have hc2 := fun W => pureB (words_any (X % M256) (by omega) W)
    rw [memOf_in h] at hc
    rw [show byN p X = (p * wds (X % M256), 0) from if_pos h, hX]
    rw [hX] at hc
    generalize X % M256 = n at *
    generalize wds n = k at *
    have HC := hideP hc
    have HC2 := hideP hc2
    clear hX hc hc2 h hp
    go_enter Tryd.func67, Tryd.ntmps67
    go_wp2_with fail
    refine at_world_q (fun W0 hW0 => ?_)
    obtain ⟨HBx, HBW⟩ := box1 hW0
    clear hW0
    replace HBW := hideP HBW
    replace HBx := hideP HBx
    refine (HC.out _).mono ?_
    rintro e V1 ⟨rfl, hb⟩
    replace HBx := hideP ((hb.block _ (lt_of_block HBx.out)).trans HBx.out)
    replace HBW := hideP (HBW.out.trans (hb.mono HBW.out.size))
    clear hb
    go_wp2_with fail
    refine (HC2.out _).mono ?_
    rintro e V2 ⟨rfl, hb⟩
    replace HBx := hideP ((hb.block _ (lt_of_block HBx.out)).trans HBx.out)
    replace HBW := hideP (HBW.out.trans (hb.mono HBW.out.size))
    clear hb
    go_wp2_with fail
    go_ret2
    exact ⟨rfl, HBW.out⟩
  · rw [memOf_out h] at hc
    rw [show byN p X = (0, 140) from if_neg h, hX]
    rw [hX] at hc
    have HC := hideP hc
    clear hX hc h hp
    go_enter Tryd.func67, Tryd.ntmps67
    go_wp2_with fail
    refine at_world_q (fun W0 hW0 => ?_)
    obtain ⟨HBx, HBW⟩ := box1 hW0
    clear hW0
    replace HBW := hideP HBW
    replace HBx := hideP HBx
    refine (HC.out _).mono ?_
    rintro e V1 ⟨rfl, hb⟩
    replace HBx := hideP ((hb.block _ (lt_of_block HBx.out)).trans HBx.out)
    replace HBW := hideP (HBW.out.trans (hb.mono HBW.out.size))
    clear hb
    go_wp2_with fail
    go_ret2
    exact ⟨rfl, HBW.out⟩

set_option maxHeartbeats 2000000 in
set_option maxRecDepth 100000 in
theorem copy_any (X : Nat) (w : World) : Calls Tryd.prog 22 #[wv X] w fun e w' => e = .returned (.tuple #[.int .u64 (byN 3 X).1, .int .i64 (byN 3 X).2]) ∧ Below w.heap.size w w' := by
  obtain ⟨x0, x1, x2, x3, hX⟩ := wv_form X
  have hc := fun W => byWords_any 3 X (by omega) W
  rw [hX] at hc ⊢
  generalize byN 3 X = r at *
  obtain ⟨r1, r2⟩ := r
  have HC := hideP hc
  clear hX hc
  go_enter Tryd.func22, Tryd.ntmps22
  go_wp2_with fail
  refine at_world_q (fun W0 hW0 => ?_)
  obtain ⟨HBx, HBW⟩ := box1 hW0
  clear hW0
  replace HBW := hideP HBW
  replace HBx := hideP HBx
  refine (HC.out _).mono ?_
  rintro e V1 ⟨rfl, hb⟩
  replace HBx := hideP ((hb.block _ (lt_of_block HBx.out)).trans HBx.out)
  replace HBW := hideP (HBW.out.trans (hb.mono HBW.out.size))
  clear hb
  go_wp2_with fail
  go_ret2
  exact ⟨rfl, HBW.out⟩

set_option maxHeartbeats 2000000 in
set_option maxRecDepth 100000 in
theorem keccak_any (X : Nat) (w : World) : Calls Tryd.prog 24 #[wv X] w fun e w' => e = .returned (.tuple #[.int .u64 (byN 6 X).1, .int .i64 (byN 6 X).2]) ∧ Below w.heap.size w w' := by
  obtain ⟨x0, x1, x2, x3, hX⟩ := wv_form X
  have hc := fun W => byWords_any 6 X (by omega) W
  rw [hX] at hc ⊢
  generalize byN 6 X = r at *
  obtain ⟨r1, r2⟩ := r
  have HC := hideP hc
  clear hX hc
  go_enter Tryd.func24, Tryd.ntmps24
  go_wp2_with fail
  refine at_world_q (fun W0 hW0 => ?_)
  obtain ⟨HBx, HBW⟩ := box1 hW0
  clear hW0
  replace HBW := hideP HBW
  replace HBx := hideP HBx
  refine (HC.out _).mono ?_
  rintro e V1 ⟨rfl, hb⟩
  replace HBx := hideP ((hb.block _ (lt_of_block HBx.out)).trans HBx.out)
  replace HBW := hideP (HBW.out.trans (hb.mono HBW.out.size))
  clear hb
  go_wp2_with fail
  go_ret2
  exact ⟨rfl, HBW.out⟩

set_option maxHeartbeats 2000000 in
set_option maxRecDepth 100000 in
theorem small_any (X : Nat) (w : World) : Calls Tryd.prog 65 #[wv X] w fun e w' => e = .returned (.int .u64 (smallN X 8388609)) ∧ Below w.heap.size w w' := by
  obtain ⟨x0, x1, x2, x3, hX⟩ := wv_form X
  have hc := fun W => refSmall_any X 8388609 (by decide) W
  have hb : smallN X 8388609 ≤ 8388609 := by unfold smallN; split <;> omega
  generalize smallN X 8388609 = r at *
  have e1 : IntKind.u64.wrap (r : Int) = (r : Int) := by rw [IntKind.wrap_u64]; omega
  rw [hX] at hc ⊢
  have HC := hideP hc
  clear hX hc hb
  go_enter Tryd.func65, Tryd.ntmps65
  go_wp2_with fail
  refine at_world_q (fun W0 hW0 => ?_)
  obtain ⟨HBx, HBW⟩ := box1 hW0
  clear hW0
  replace HBW := hideP HBW
  replace HBx := hideP HBx
  refine (HC.out _).mono ?_
  rintro e V1 ⟨rfl, hb⟩
  replace HBx := hideP ((hb.block _ (lt_of_block HBx.out)).trans HBx.out)
  replace HBW := hideP (HBW.out.trans (hb.mono HBW.out.size))
  clear hb
  go_wp2_with fail
  go_ret
  exact ⟨rfl, HBW.out⟩

set_option maxHeartbeats 2000000 in
set_option maxRecDepth 100000 in
theorem each_any (X p : Nat) (hp : p ≤ 6) (w : World) : Calls Tryd.prog 68 #[wv X, .int .u64 p] w fun e w' => e = .returned (.tuple #[.int .u64 (byN p X).1, .int .i64 (byN p X).2]) ∧ Below w.heap.size w w' := by
  obtain ⟨x0, x1, x2, x3, hX⟩ := wv_form X
  have hc := fun W => small_any X W
  by_cases h : X % M256 ≤ 8388608
  · have e1 : IntKind.u64.wrap ((p : Int) * (wds (X % M256) : Int)) = (p : Int) * (wds (X % M256) : Int) := by
      have h1 := Nat.mul_le_mul hp (wds_le h)
      rw [← Int.natCast_mul, IntKind.wrap_u64]; omega
    have hc2 := fun W => pureB (rwords_any (X % M256) (by omega) W)
    rw [smallN_in h] at hc
    rw [show byN p X = (p * wds (X % M256), 0) from if_pos h, hX]
    rw [hX] at hc
    generalize X % M256 = n at *
    have gg : ¬ (8388608 : Int) < (n : Int) := by omega
    generalize wds n = k at *
    have HC := hideP hc
    have HC2 := hideP hc2
    clear hX hc hc2 h hp
    go_enter Tryd.func68, Tryd.ntmps68
    go_wp2_with fail
    refine at_world_q (fun W0 hW0 => ?_)
    obtain ⟨HBx, HBW⟩ := box1 hW0
    clear hW0
    replace HBW := hideP HBW
    replace HBx := hideP HBx
    refine (HC.out _).mono ?_
    rintro e V1 ⟨rfl, hb⟩
    replace HBx := hideP ((hb.block _ (lt_of_block HBx.out)).trans HBx.out)
    replace HBW := hideP (HBW.out.trans (hb.mono HBW.out.size))
    clear hb
    obtain ⟨cx0, cx1, cx2, cx3⟩ := cells4 HBx.out
    have hlx := lt_of_block HBx.out
    go_wp2_with fail
    clear cx0 cx1 cx2 cx3 hlx
    refine (HC.out _).mono ?_
    rintro e V2 ⟨rfl, hb⟩
    replace HBx := hideP ((hb.block _ (lt_of_block HBx.out)).trans HBx.out)
    replace HBW := hideP (HBW.out.trans (hb.mono HBW.out.size))
    clear hb
    go_wp2_with fail
    refine (HC2.out _).mono ?_
    rintro e V3 ⟨rfl, hb⟩
    replace HBx := hideP ((hb.block _ (lt_of_block HBx.out)).trans HBx.out)
    replace HBW := hideP (HBW.out.trans (hb.mono HBW.out.size))
    clear hb
    go_wp2_with fail
    go_ret2
    exact ⟨rfl, HBW.out⟩
  · rw [smallN_out h] at hc
    rw [show byN p X = (0, 140) from if_neg h, hX]
    rw [hX] at hc
    have HC := hideP hc
    clear hX hc h hp
    go_enter Tryd.func68, Tryd.ntmps68
    go_wp2_with fail
    refine at_world_q (fun W0 hW0 => ?_)
    obtain ⟨HBx, HBW⟩ := box1 hW0
    clear hW0
    replace HBW := hideP HBW
    replace HBx := hideP HBx
    refine (HC.out _).mono ?_
    rintro e V1 ⟨rfl, hb⟩
    replace HBx := hideP ((hb.block _ (lt_of_block HBx.out)).trans HBx.out)
    replace HBW := hideP (HBW.out.trans (hb.mono HBW.out.size))
    clear hb
    go_wp2_with fail
    go_ret2
    exact ⟨rfl, HBW.out⟩

set_option maxHeartbeats 2000000 in
set_option maxRecDepth 100000 in
theorem rcopy_any (X : Nat) (w : World) : Calls Tryd.prog 23 #[wv X] w fun e w' => e = .returned (.tuple #[.int .u64 (byN 3 X).1, .int .i64 (byN 3 X).2]) ∧ Below w.heap.size w w' := by
  obtain ⟨x0, x1, x2, x3, hX⟩ := wv_form X
  have hc := fun W => (fun X => each_any X 3) X (by omega) W
  rw [hX] at hc ⊢
  generalize byN 3 X = r at *
  obtain ⟨r1, r2⟩ := r
  have HC := hideP hc
  clear hX hc
  go_enter Tryd.func23, Tryd.ntmps23
  go_wp2_with fail
  refine at_world_q (fun W0 hW0 => ?_)
  obtain ⟨HBx, HBW⟩ := box1 hW0
  clear hW0
  replace HBW := hideP HBW
  replace HBx := hideP HBx
  refine (HC.out _).mono ?_
  rintro e V1 ⟨rfl, hb⟩
  replace HBx := hideP ((hb.block _ (lt_of_block HBx.out)).trans HBx.out)
  replace HBW := hideP (HBW.out.trans (hb.mono HBW.out.size))
  clear hb
  go_wp2_with fail
  go_ret2
  exact ⟨rfl, HBW.out⟩

set_option maxHeartbeats 2000000 in
set_option maxRecDepth 100000 in
theorem rkeccak_any (X : Nat) (w : World) : Calls Tryd.prog 25 #[wv X] w fun e w' => e = .returned (.tuple #[.int .u64 (byN 6 X).1, .int .i64 (byN 6 X).2]) ∧ Below w.heap.size w w' := by
  obtain ⟨x0, x1, x2, x3, hX⟩ := wv_form X
  have hc := fun W => (fun X => each_any X 6) X (by omega) W
  rw [hX] at hc ⊢
  generalize byN 6 X = r at *
  obtain ⟨r1, r2⟩ := r
  have HC := hideP hc
  clear hX hc
  go_enter Tryd.func25, Tryd.ntmps25
  go_wp2_with fail
  refine at_world_q (fun W0 hW0 => ?_)
  obtain ⟨HBx, HBW⟩ := box1 hW0
  clear hW0
  replace HBW := hideP HBW
  replace HBx := hideP HBx
  refine (HC.out _).mono ?_
  rintro e V1 ⟨rfl, hb⟩
  replace HBx := hideP ((hb.block _ (lt_of_block HBx.out)).trans HBx.out)
  replace HBW := hideP (HBW.out.trans (hb.mono HBW.out.size))
  clear hb
  go_wp2_with fail
  go_ret2
  exact ⟨rfl, HBW.out⟩

/-- What so many topics and bytes of a log cost. -/
def logN (t : Int) (X : Nat) : Nat × Int := if t < 0 ∨ 4 < t then (0, 1) else if X % M256 ≤ 8388608 then (375 * t.toNat + 8 * (X % M256), 0) else (0, 140)

set_option maxHeartbeats 2000000 in
set_option maxRecDepth 100000 in
theorem log_any (t : Int) (ht : -9223372036854775808 ≤ t ∧ t ≤ 9223372036854775807) (X : Nat) (w : World) : Calls Tryd.prog 26 #[.int .i64 t, wv X] w fun e w' => e = .returned (.tuple #[.int .u64 (logN t X).1, .int .i64 (logN t X).2]) ∧ Below w.heap.size w w' := by
  obtain ⟨x0, x1, x2, x3, hX⟩ := wv_form X
  have hc := fun W => inMemory_any X W
  by_cases g1 : t < 0
  · rw [show logN t X = (0, 1) from if_pos (by omega), hX]
    clear hc hX ht
    go_enter Tryd.func26, Tryd.ntmps26
    go_wp2_with fail
    go_ret2
    exact ⟨rfl, (Below.refl _ w).alloc (Nat.le_refl _) _⟩
  by_cases g2 : 4 < t
  · rw [show logN t X = (0, 1) from if_pos (by omega), hX]
    clear hc hX ht
    go_enter Tryd.func26, Tryd.ntmps26
    go_wp2_with fail
    go_ret2
    exact ⟨rfl, (Below.refl _ w).alloc (Nat.le_refl _) _⟩
  · by_cases h : X % M256 ≤ 8388608
    · rw [show logN t X = (375 * t.toNat + 8 * (X % M256), 0) from (if_neg (by omega)).trans (if_pos h)]
      obtain ⟨k, rfl⟩ : ∃ k : Nat, t = k := ⟨t.toNat, by omega⟩
      rw [Int.toNat_natCast, hX]
      rw [memOf_in h, hX] at hc
      generalize X % M256 = n at *
      have e1 : IntKind.u64.wrap (k : Int) = (k : Int) := by rw [IntKind.wrap_u64]; omega
      have e2 : IntKind.u64.wrap (375 * (k : Int)) = 375 * (k : Int) := by rw [IntKind.wrap_u64]; omega
      have e3 : IntKind.u64.wrap (8 * (n : Int)) = 8 * (n : Int) := by rw [IntKind.wrap_u64]; omega
      have e4 : IntKind.u64.wrap (375 * (k : Int) + 8 * (n : Int)) = 375 * (k : Int) + 8 * (n : Int) := by rw [IntKind.wrap_u64]; omega
      have g3 : ¬ (8388608 : Int) < (n : Int) := by omega
      have g1' : ¬ (k : Int) < 0 := by omega
      have g2' : ¬ (4 : Int) < (k : Int) := by omega
      have HC := hideP hc
      clear hX hc h ht
      go_enter Tryd.func26, Tryd.ntmps26
      go_wp2_with fail
      refine at_world_q (fun W0 hW0 => ?_)
      obtain ⟨HBx, HBW⟩ := box1 hW0
      clear hW0
      replace HBW := hideP HBW
      replace HBx := hideP HBx
      refine (HC.out _).mono ?_
      rintro e V1 ⟨rfl, hb⟩
      replace HBx := hideP ((hb.block _ (lt_of_block HBx.out)).trans HBx.out)
      replace HBW := hideP (HBW.out.trans (hb.mono HBW.out.size))
      clear hb
      go_wp2_with fail
      go_ret2
      exact ⟨rfl, HBW.out⟩
    · rw [show logN t X = (0, 140) from (if_neg (by omega)).trans (if_neg h), hX]
      rw [memOf_out h, hX] at hc
      have HC := hideP hc
      clear hX hc h ht
      go_enter Tryd.func26, Tryd.ntmps26
      go_wp2_with fail
      refine at_world_q (fun W0 hW0 => ?_)
      obtain ⟨HBx, HBW⟩ := box1 hW0
      clear hW0
      replace HBW := hideP HBW
      replace HBx := hideP HBx
      refine (HC.out _).mono ?_
      rintro e V1 ⟨rfl, hb⟩
      replace HBx := hideP ((hb.block _ (lt_of_block HBx.out)).trans HBx.out)
      replace HBW := hideP (HBW.out.trans (hb.mono HBW.out.size))
      clear hb
      go_wp2_with fail
      go_ret2
      exact ⟨rfl, HBW.out⟩

set_option maxHeartbeats 2000000 in
set_option maxRecDepth 100000 in
theorem rlog_any (t : Int) (ht : -9223372036854775808 ≤ t ∧ t ≤ 9223372036854775807) (X : Nat) (w : World) : Calls Tryd.prog 27 #[.int .i64 t, wv X] w fun e w' => e = .returned (.tuple #[.int .u64 (logN t X).1, .int .i64 (logN t X).2]) ∧ Below w.heap.size w w' := by
  obtain ⟨x0, x1, x2, x3, hX⟩ := wv_form X
  have hc := fun W => small_any X W
  by_cases g1 : t < 0
  · rw [show logN t X = (0, 1) from if_pos (by omega), hX]
    clear hc hX ht
    go_enter Tryd.func27, Tryd.ntmps27
    go_wp2_with fail
    go_ret2
    exact ⟨rfl, (Below.refl _ w).alloc (Nat.le_refl _) _⟩
  by_cases g2 : 4 < t
  · rw [show logN t X = (0, 1) from if_pos (by omega), hX]
    clear hc hX ht
    go_enter Tryd.func27, Tryd.ntmps27
    go_wp2_with fail
    go_ret2
    exact ⟨rfl, (Below.refl _ w).alloc (Nat.le_refl _) _⟩
  · by_cases h : X % M256 ≤ 8388608
    · rw [show logN t X = (375 * t.toNat + 8 * (X % M256), 0) from (if_neg (by omega)).trans (if_pos h)]
      obtain ⟨k, rfl⟩ : ∃ k : Nat, t = k := ⟨t.toNat, by omega⟩
      rw [Int.toNat_natCast, hX]
      rw [smallN_in h, hX] at hc
      generalize X % M256 = n at *
      have e1 : IntKind.u64.wrap (k : Int) = (k : Int) := by rw [IntKind.wrap_u64]; omega
      have e2 : IntKind.u64.wrap (375 * (k : Int)) = 375 * (k : Int) := by rw [IntKind.wrap_u64]; omega
      have e3 : IntKind.u64.wrap (8 * (n : Int)) = 8 * (n : Int) := by rw [IntKind.wrap_u64]; omega
      have e4 : IntKind.u64.wrap (375 * (k : Int) + 8 * (n : Int)) = 375 * (k : Int) + 8 * (n : Int) := by rw [IntKind.wrap_u64]; omega
      have g3 : ¬ (8388608 : Int) < (n : Int) := by omega
      have g1' : ¬ (k : Int) < 0 := by omega
      have g2' : ¬ (4 : Int) < (k : Int) := by omega
      have HC := hideP hc
      clear hX hc h ht
      go_enter Tryd.func27, Tryd.ntmps27
      go_wp2_with fail
      refine at_world_q (fun W0 hW0 => ?_)
      obtain ⟨HBx, HBW⟩ := box1 hW0
      clear hW0
      replace HBW := hideP HBW
      replace HBx := hideP HBx
      refine (HC.out _).mono ?_
      rintro e V1 ⟨rfl, hb⟩
      replace HBx := hideP ((hb.block _ (lt_of_block HBx.out)).trans HBx.out)
      replace HBW := hideP (HBW.out.trans (hb.mono HBW.out.size))
      clear hb
      obtain ⟨cx0, cx1, cx2, cx3⟩ := cells4 HBx.out
      have hlx := lt_of_block HBx.out
      go_wp2_with fail
      clear cx0 cx1 cx2 cx3 hlx
      refine (HC.out _).mono ?_
      rintro e V2 ⟨rfl, hb⟩
      replace HBx := hideP ((hb.block _ (lt_of_block HBx.out)).trans HBx.out)
      replace HBW := hideP (HBW.out.trans (hb.mono HBW.out.size))
      clear hb
      go_wp2_with fail
      go_ret2
      exact ⟨rfl, HBW.out⟩
    · rw [show logN t X = (0, 140) from (if_neg (by omega)).trans (if_neg h), hX]
      rw [smallN_out h, hX] at hc
      have HC := hideP hc
      clear hX hc h ht
      go_enter Tryd.func27, Tryd.ntmps27
      go_wp2_with fail
      refine at_world_q (fun W0 hW0 => ?_)
      obtain ⟨HBx, HBW⟩ := box1 hW0
      clear hW0
      replace HBW := hideP HBW
      replace HBx := hideP HBx
      refine (HC.out _).mono ?_
      rintro e V1 ⟨rfl, hb⟩
      replace HBx := hideP ((hb.block _ (lt_of_block HBx.out)).trans HBx.out)
      replace HBW := hideP (HBW.out.trans (hb.mono HBW.out.size))
      clear hb
      go_wp2_with fail
      go_ret2
      exact ⟨rfl, HBW.out⟩

end Go.Proofs.YtaeadndihchbnaaDoor
