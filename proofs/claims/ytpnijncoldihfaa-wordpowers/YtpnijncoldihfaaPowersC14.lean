/-
  Digits and bits of numbers.
-/
import Derived.Test.YtpnijncoldihfaaPowersC13
namespace Go.Proofs.Ytpnijncoldihfaa
open Go.RowKit Go.Shelf

theorem pow32 (i : Nat) : 2 ^ i = 4294967296 ^ (i / 32) * 2 ^ (i % 32) := by
  rw [show (4294967296 : Nat) = 2 ^ 32 by decide, ← Nat.pow_mul, ← Nat.pow_add, Nat.div_add_mod]

theorem dg_bit (A i : Nat) : dg A (i / 32) / 2 ^ (i % 32) % 2 = A / 2 ^ i % 2 := by
  unfold dg
  have h := Nat.mod_lt i (show 0 < 32 by decide)
  rw [pow32 i, ← Nat.div_div_eq_div_mul]
  generalize A / 4294967296 ^ (i / 32) = x
  rw [← Nat.toNat_testBit, ← Nat.toNat_testBit, show (4294967296 : Nat) = 2 ^ 32 by decide, Nat.testBit_mod_two_pow]
  simp [h]

/-- A bit of a number. -/
def bt (X i : Nat) : Nat := X / 2 ^ i % 2

theorem bt_le (X i : Nat) : bt X i ≤ 1 := by unfold bt; omega

theorem bt_test (X i : Nat) : bt X i = (X.testBit i).toNat := (Nat.toNat_testBit X i).symm

theorem pow64 (i : Nat) : 2 ^ i = 18446744073709551616 ^ (i / 64) * 2 ^ (i % 64) := by
  rw [show (18446744073709551616 : Nat) = 2 ^ 64 by decide, ← Nat.pow_mul, ← Nat.pow_add, Nat.div_add_mod]

theorem limb_bit (A i : Nat) : limb A (i / 64) / 2 ^ (i % 64) % 2 = bt A i := by
  unfold limb bt
  have h := Nat.mod_lt i (show 0 < 64 by decide)
  rw [pow64 i, ← Nat.div_div_eq_div_mul]
  generalize A / 18446744073709551616 ^ (i / 64) = x
  rw [← Nat.toNat_testBit, ← Nat.toNat_testBit, show (18446744073709551616 : Nat) = 2 ^ 64 by decide, Nat.testBit_mod_two_pow]
  simp [h]

theorem mod_bit (N i : Nat) : N % 2 ^ (i + 1) = N % 2 ^ i + bt N i * 2 ^ i := by
  unfold bt
  rw [Nat.mod_pow_succ, Nat.mul_comm]

theorem bt_mod (X i n : Nat) (h : i < n) : bt (X % 2 ^ n) i = bt X i := by
  rw [bt_test, bt_test, Nat.testBit_mod_two_pow]; simp [h]

theorem bt_mod_high (X i n : Nat) (h : n ≤ i) : bt (X % 2 ^ n) i = 0 := by
  rw [bt_test, Nat.testBit_mod_two_pow]
  have : ¬ i < n := by omega
  simp [this]

theorem limb_add_bit (O b i j : Nat) (hO : O < 2 ^ i) (hb : b ≤ 1) : limb (O + b * 2 ^ i) j = if j = i / 64 then limb O j + b * 2 ^ (i % 64) else limb O j := by
  have hs := Nat.mod_lt i (show 0 < 64 by decide)
  have hL : (0 : Nat) < 18446744073709551616 ^ j := Nat.pow_pos (by decide)
  rcases Nat.lt_trichotomy j (i / 64) with h | h | h
  · rw [if_neg (by omega)]
    obtain ⟨t, ht⟩ : ∃ t, i / 64 = j + (t + 1) := ⟨i / 64 - j - 1, by omega⟩
    unfold limb
    rw [pow64 i, ht, Nat.pow_add, Nat.pow_succ,
      show b * (18446744073709551616 ^ j * (18446744073709551616 ^ t * 18446744073709551616) * 2 ^ (i % 64)) = 18446744073709551616 ^ j * (18446744073709551616 * (b * 18446744073709551616 ^ t * 2 ^ (i % 64))) by
        rw [Nat.mul_left_comm, Nat.mul_comm (18446744073709551616 ^ t) 18446744073709551616]
        simp only [Nat.mul_assoc, Nat.mul_comm b], Nat.add_mul_div_left _ _ hL, Nat.add_mul_mod_self_left]
  · rw [if_pos h]
    unfold limb
    have h1 : O / 18446744073709551616 ^ j < 2 ^ (i % 64) := by
      rw [Nat.div_lt_iff_lt_mul hL, Nat.mul_comm, h, ← pow64]; exact hO
    have h2 : 2 ^ (i % 64) * 2 ≤ 18446744073709551616 := by
      rw [← Nat.pow_succ, show (18446744073709551616 : Nat) = 2 ^ 64 by decide]; exact Nat.pow_le_pow_right (by decide) (by omega)
    have h3 : b * 2 ^ (i % 64) ≤ 2 ^ (i % 64) := by
      rcases (show b = 0 ∨ b = 1 by omega) with e | e <;> rw [e] <;> omega
    have h4 : b * 2 ^ i = 18446744073709551616 ^ j * (b * 2 ^ (i % 64)) := by rw [pow64 i, ← h, Nat.mul_left_comm]
    rw [h4, Nat.add_mul_div_left _ _ hL]
    generalize b * 2 ^ (i % 64) = c at *
    rw [Nat.mod_eq_of_lt (by omega), Nat.mod_eq_of_lt (by omega)]
  · rw [if_neg (by omega)]
    unfold limb
    have h1 : 2 ^ (i + 1) ≤ 18446744073709551616 ^ j := by
      rw [show (18446744073709551616 : Nat) = 2 ^ 64 by decide, ← Nat.pow_mul]; exact Nat.pow_le_pow_right (by decide) (by omega)
    have h3 : b * 2 ^ i ≤ 2 ^ i := by
      rcases (show b = 0 ∨ b = 1 by omega) with e | e <;> rw [e] <;> omega
    rw [Nat.pow_succ] at h1
    rw [Nat.div_eq_of_lt (by omega), Nat.div_eq_of_lt (by omega)]

theorem bt_shl (X n i : Nat) : bt (X * 2 ^ n) i = if i < n then 0 else bt X (i - n) := by
  rw [bt_test, Nat.testBit_mul_two_pow]
  by_cases h : i < n
  · rw [if_pos h]; have : ¬ i ≥ n := by omega
    simp [this]
  · rw [if_neg h]; have : i ≥ n := by omega
    simp [this, bt_test]

theorem bt_shr (X n i : Nat) : bt (X / 2 ^ n) i = bt X (i + n) := by
  unfold bt
  rw [Nat.div_div_eq_div_mul, ← Nat.pow_add, Nat.add_comm n i]

theorem bt_not (X i n : Nat) (h : X < 2 ^ n) (hi : i < n) : bt (2 ^ n - 1 - X) i = 1 - bt X i := by
  have e : 2 ^ n - 1 - X = 2 ^ n - (X + 1) := by omega
  rw [bt_test, bt_test, e, Nat.testBit_two_pow_sub_succ h]
  simp [hi]
  cases X.testBit i <;> rfl

end Go.Proofs.Ytpnijncoldihfaa
