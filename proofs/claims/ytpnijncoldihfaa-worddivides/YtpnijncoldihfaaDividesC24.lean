/-
  Signed words: shifted, extended, held against one another.
-/
import Derived.Test.YtpnijncoldihfaaDividesC21
import Derived.Test.YtpnijncoldihfaaDividesC23
import Derived.Test.YtpnijncoldihfaaDividesC14
import Derived.Test.YtpnijncoldihfaaDividesC02
import Derived.Test.YtpnijncoldihfaaDividesC20
namespace Go.Proofs.Ytpnijncoldihfaa
open Go.RowKit Go.Shelf

theorem limb_split (N i : Nat) : N / 18446744073709551616 ^ i = limb N i + 18446744073709551616 * (N / 18446744073709551616 ^ (i + 1)) := by
  unfold limb
  rw [Nat.pow_succ, ← Nat.div_div_eq_div_mul, Nat.mod_add_div]

theorem c9_mk {s0 s1 s2 s3 s4 s5 s6 s7 s8 k Z : Nat} (h0 : s0 < 18446744073709551616) (h1 : s1 < 18446744073709551616) (h2 : s2 < 18446744073709551616) (h3 : s3 < 18446744073709551616) (h4 : s4 < 18446744073709551616) (h5 : s5 < 18446744073709551616) (h6 : s6 < 18446744073709551616) (h7 : s7 < 18446744073709551616) (h8 : s8 < 18446744073709551616)
    (h : Z = s0 + 18446744073709551616 * (s1 + 18446744073709551616 * (s2 + 18446744073709551616 * (s3 + 18446744073709551616 * (s4 + 18446744073709551616 * (s5 + 18446744073709551616 * (s6 + 18446744073709551616 * (s7 + 18446744073709551616 * (s8 + 18446744073709551616 * (k)))))))))) :
    Value.agg #[.int .u64 s0, .int .u64 s1, .int .u64 s2, .int .u64 s3, .int .u64 s4, .int .u64 s5, .int .u64 s6, .int .u64 s7, .int .u64 s8] = .agg (c9 (limb Z)) := by
  subst h
  unfold c9
  simp only [limb_zero_of h0, limb_succ_of h0, limb_zero_of h1, limb_succ_of h1, limb_zero_of h2, limb_succ_of h2, limb_zero_of h3, limb_succ_of h3, limb_zero_of h4, limb_succ_of h4, limb_zero_of h5, limb_succ_of h5, limb_zero_of h6, limb_succ_of h6, limb_zero_of h7, limb_succ_of h7, limb_zero_of h8]

set_option maxHeartbeats 4000000 in
set_option maxRecDepth 100000 in
theorem raise_any (N n : Nat) (hN : N < 18446744073709551616 ^ 8) (hn : n < 64) (w : World) : Calls Try.prog 129 #[w8 N, .int .u64 n] w fun e w' => e = .returned (.agg (c9 (limb (N * 2 ^ n)))) ∧ Below w.heap.size w w' := by
  obtain ⟨r, hr⟩ : ∃ r, r + n = 64 := ⟨64 - n, by omega⟩
  have hQ : 0 < 2 ^ n := Nat.two_pow_pos n
  have d0 := limb_split N 0
  have h0 := limb_lt N 0
  have d1 := limb_split N 1
  have h1 := limb_lt N 1
  have d2 := limb_split N 2
  have h2 := limb_lt N 2
  have d3 := limb_split N 3
  have h3 := limb_lt N 3
  have d4 := limb_split N 4
  have h4 := limb_lt N 4
  have d5 := limb_split N 5
  have h5 := limb_lt N 5
  have d6 := limb_split N 6
  have h6 := limb_lt N 6
  have d7 := limb_split N 7
  have h7 := limb_lt N 7
  have d8 : N / 18446744073709551616 ^ (7 + 1) = 0 := Nat.div_eq_of_lt hN
  rw [Nat.pow_zero, Nat.div_one] at d0
  simp only [Nat.zero_add] at d0
  unfold w8
  generalize limb N 0 = x0 at d0 h0 ⊢
  generalize limb N 1 = x1 at d1 h1 ⊢
  generalize limb N 2 = x2 at d2 h2 ⊢
  generalize limb N 3 = x3 at d3 h3 ⊢
  generalize limb N 4 = x4 at d4 h4 ⊢
  generalize limb N 5 = x5 at d5 h5 ⊢
  generalize limb N 6 = x6 at d6 h6 ⊢
  generalize limb N 7 = x7 at d7 h7 ⊢
  rw [d8] at d7
  clear d8
  generalize N / 18446744073709551616 ^ (0 + 1) = N1 at d0 d1
  generalize N / 18446744073709551616 ^ (1 + 1) = N2 at d1 d2
  generalize N / 18446744073709551616 ^ (2 + 1) = N3 at d2 d3
  generalize N / 18446744073709551616 ^ (3 + 1) = N4 at d3 d4
  generalize N / 18446744073709551616 ^ (4 + 1) = N5 at d4 d5
  generalize N / 18446744073709551616 ^ (5 + 1) = N6 at d5 d6
  generalize N / 18446744073709551616 ^ (6 + 1) = N7 at d6 d7
  obtain ⟨s0, i0, e0, u0, b0⟩ := shl_limb x0 0 n r hr h0 hQ
  obtain ⟨s1, i1, e1, u1, b1⟩ := shl_limb x1 (x0 / 2 ^ r) n r hr h1 u0
  obtain ⟨s2, i2, e2, u2, b2⟩ := shl_limb x2 (x1 / 2 ^ r) n r hr h2 u1
  obtain ⟨s3, i3, e3, u3, b3⟩ := shl_limb x3 (x2 / 2 ^ r) n r hr h3 u2
  obtain ⟨s4, i4, e4, u4, b4⟩ := shl_limb x4 (x3 / 2 ^ r) n r hr h4 u3
  obtain ⟨s5, i5, e5, u5, b5⟩ := shl_limb x5 (x4 / 2 ^ r) n r hr h5 u4
  obtain ⟨s6, i6, e6, u6, b6⟩ := shl_limb x6 (x5 / 2 ^ r) n r hr h6 u5
  obtain ⟨s7, i7, e7, u7, b7⟩ := shl_limb x7 (x6 / 2 ^ r) n r hr h7 u6
  have a7 := Sh.stepL (X := 0) (S := x7 / 2 ^ r) e7 (by omega)
  rw [← d7] at a7
  have a6 := Sh.stepL e6 a7
  rw [← d6] at a6
  have a5 := Sh.stepL e5 a6
  rw [← d5] at a5
  have a4 := Sh.stepL e4 a5
  rw [← d4] at a4
  have a3 := Sh.stepL e3 a4
  rw [← d3] at a3
  have a2 := Sh.stepL e2 a3
  rw [← d2] at a2
  have a1 := Sh.stepL e1 a2
  rw [← d1] at a1
  have a0 := Sh.stepL e0 a1
  rw [← d0, Nat.add_zero] at a0
  have i8 : x7 / 2 ^ r < 18446744073709551616 := Nat.lt_of_le_of_lt (Nat.div_le_self _ _) h7
  have HR := hideP (c9_mk (k := 0) i0 i1 i2 i3 i4 i5 i6 i7 i8 (show N * 2 ^ n = _ by rw [a0]; rfl))
  simp only [Int.natCast_ediv, Int.natCast_pow, Int.cast_ofNat_Int] at b0 b1 b2 b3 b4 b5 b6 b7
  have hri : IntKind.u64.wrap ((64 : Int) - (n : Int)) = (r : Int) := by rw [IntKind.wrap_u64]; omega
  have hp64 : (n : Int) ≤ 64 := by omega
  have hr64 : (r : Int) ≤ 64 := by omega
  have hn64 : (n : Int) < 64 := by omega
  clear d0 h0 i0 e0 u0 a0 d1 h1 i1 e1 u1 a1 d2 h2 i2 e2 u2 a2 d3 h3 i3 e3 u3 a3 d4 h4 i4 e4 u4 a4 d5 h5 i5 e5 u5 a5 d6 h6 i6 e6 u6 a6 d7 h7 i7 e7 u7 a7 i8 hQ hN hr
  go_enter Try.func129, Try.ntmps129
  go_wp2_with fail
  refine wp_loop_rounds 9 ?_
  rw [rounds_succ]
  go_wp2_with fail
  rw [rounds_succ]
  go_wp2_with fail
  rw [rounds_succ]
  go_wp2_with fail
  rw [rounds_succ]
  go_wp2_with fail
  rw [rounds_succ]
  go_wp2_with fail
  rw [rounds_succ]
  go_wp2_with fail
  rw [rounds_succ]
  go_wp2_with fail
  rw [rounds_succ]
  go_wp2_with fail
  rw [rounds_succ]
  go_wp2
  refine bodyPost_ret (v := .agg #[.int .u64 (s0 : Nat), .int .u64 (s1 : Nat), .int .u64 (s2 : Nat), .int .u64 (s3 : Nat), .int .u64 (s4 : Nat), .int .u64 (s5 : Nat), .int .u64 (s6 : Nat), .int .u64 (s7 : Nat), .int .u64 ((x7 / 2 ^ r : Nat) : Int)]) (by simp [results, Try.results129, go_sem]) rfl ⟨by rw [HR.out], ?_⟩
  repeat first | exact Below.refl _ _ | apply Below.drew | (refine Below.alloc ?_ (by simp <;> omega) _) | (refine Below.setCell ?_ (by simp <;> omega) _)

end Go.Proofs.Ytpnijncoldihfaa

namespace Go.Proofs.Ytpnijncoldihfaa
open Go.RowKit Go.Shelf

/-- Shifted right. -/
def shrN (n X : Nat) : Nat := if n < 256 then X % M256 / 2 ^ n else 0

/-- Shifted left. -/
def shlN (n X : Nat) : Nat := if n < 256 then X * 2 ^ n else 0

theorem shr_any (N X : Nat) (w : World) : Calls Try.prog 62 #[wv N, wv X] w fun e w' => e = .returned (wv (shrN (N % M256) X)) ∧ Below w.heap.size w w' := by
  unfold shrN
  by_cases h : N % M256 < 256
  · rw [if_pos h]; exact shr_in N X h w
  · rw [if_neg h]; exact shr_out N X (by omega) w

theorem shl_any (N X : Nat) (w : World) : Calls Try.prog 60 #[wv N, wv X] w fun e w' => e = .returned (wv (shlN (N % M256) X)) ∧ Below w.heap.size w w' := by
  unfold shlN
  by_cases h : N % M256 < 256
  · rw [if_pos h]; exact shl_in N X h w
  · rw [if_neg h]; exact shl_out N X (by omega) w

end Go.Proofs.Ytpnijncoldihfaa
