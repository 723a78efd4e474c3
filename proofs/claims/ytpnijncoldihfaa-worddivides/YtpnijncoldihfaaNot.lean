/-
  The bits that a word does not have.
-/
import Derived.Test.YtpnijncoldihfaaLeaf
namespace Go.Proofs.Ytpnijncoldihfaa
open Go.RowKit Go.Shelf

theorem xor_ones (x : Nat) (h : x < 18446744073709551616) : 18446744073709551615 ^^^ x = 18446744073709551615 - x := by
  have e : (18446744073709551615 : Nat) = 2 ^ 64 - 1 := by decide
  have h64 : x < 2 ^ 64 := by simpa using h
  rw [show 18446744073709551615 - x = 2 ^ 64 - (x + 1) by omega, e]
  apply Nat.eq_of_testBit_eq
  intro i
  rw [Nat.testBit_xor, Nat.testBit_two_pow_sub_one, Nat.testBit_two_pow_sub_succ h64]
  by_cases hi : i < 64
  · simp [hi]
  · have : x.testBit i = false := Nat.testBit_lt_two_pow (Nat.lt_of_lt_of_le h64 (Nat.pow_le_pow_right (by omega) (by omega)))
    simp [hi, this]

theorem not_limb (x : Nat) (h : x < 18446744073709551616) : bits .xor .u64 IntKind.u64.max (x : Int) = ((18446744073709551615 - x : Nat) : Int) := by
  have hx := bits_xor_u64_nat 18446744073709551615 x (by omega) h
  rw [xor_ones x h] at hx
  exact hx

set_option maxHeartbeats 1000000 in
set_option maxRecDepth 100000 in
theorem not_any (X : Nat) (w : World) : Calls Try.prog 56 #[wv X] w fun e w' => e = .returned (wv (M256 - 1 - X % M256)) ∧ Below w.heap.size w w' := by
  obtain ⟨x0, x1, x2, x3, h0, h1, h2, h3, eX, hX⟩ := wv_limbs X
  have hr : Value.agg #[.int .u64 ((18446744073709551615 - x0 : Nat) : Int), .int .u64 ((18446744073709551615 - x1 : Nat) : Int), .int .u64 ((18446744073709551615 - x2 : Nat) : Int), .int .u64 ((18446744073709551615 - x3 : Nat) : Int)] = wv (M256 - 1 - X % M256) := by
    refine wv_num (by omega) (by omega) (by omega) (by omega) ?_
    rw [Nat.mod_eq_of_lt (by have := M256_pos; omega), eX]
    unfold M256 num
    omega
  rw [hX]
  have n0 := not_limb x0 h0
  have n1 := not_limb x1 h1
  have n2 := not_limb x2 h2
  have n3 := not_limb x3 h3
  have HR := hideP hr
  clear hr eX hX h0 h1 h2 h3
  generalize 18446744073709551615 - x0 = y0 at n0 HR
  generalize 18446744073709551615 - x1 = y1 at n1 HR
  generalize 18446744073709551615 - x2 = y2 at n2 HR
  generalize 18446744073709551615 - x3 = y3 at n3 HR
  go_enter Try.func56, Try.ntmps56
  go_wp2_with fail
  refine wp_loop_rounds 5 ?_
  rw [rounds_succ]
  go_wp2_with fail
  rw [rounds_succ]
  go_wp2_with fail
  rw [rounds_succ]
  go_wp2_with fail
  rw [rounds_succ]
  go_wp2_with fail
  rw [rounds_succ]
  go_wp2
  refine bodyPost_ret (v := .agg #[.int .u64 y0, .int .u64 y1, .int .u64 y2, .int .u64 y3]) (by simp [results, Try.results56, go_sem]) rfl ⟨by rw [HR.out], ?_⟩
  repeat first | exact Below.refl _ _ | apply Below.drew | (refine Below.alloc ?_ (by simp <;> omega) _) | (refine Below.setCell ?_ (by simp <;> omega) _)

end Go.Proofs.Ytpnijncoldihfaa
