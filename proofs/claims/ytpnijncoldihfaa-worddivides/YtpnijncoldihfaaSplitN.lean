/-
  Digits and bits of numbers.
-/
import Derived.Test.YtpnijncoldihfaaLong
namespace Go.Proofs.Ytpnijncoldihfaa
open Go.RowKit Go.Shelf

theorem dg_double_add (R b j : Nat) (hb : b ≤ 1) : dg (2 * R + b) j = if j = 0 then dg (2 * R) 0 + b else dg (2 * R) j := by
  cases j with
  | zero => rw [if_pos rfl]; unfold dg; rw [Nat.pow_zero, Nat.div_one, Nat.div_one]; omega
  | succ j =>
    rw [if_neg (by omega)]
    unfold dg
    rw [Nat.pow_succ, Nat.mul_comm (4294967296 ^ j), ← Nat.div_div_eq_div_mul, ← Nat.div_div_eq_div_mul, show (2 * R + b) / 4294967296 = 2 * R / 4294967296 by omega]

theorem dg_shift_low (m d j : Nat) (h : j < d) : dg (4294967296 ^ d * m) j = 0 := by
  obtain ⟨t, rfl⟩ : ∃ t, d = j + (t + 1) := ⟨d - j - 1, by omega⟩
  unfold dg
  rw [Nat.pow_add, Nat.mul_assoc, Nat.mul_div_cancel_left _ (Nat.pow_pos (by decide)), Nat.pow_succ, Nat.mul_comm (4294967296 ^ t), Nat.mul_assoc, Nat.mul_mod_right]

theorem dg_shift_high (m d t : Nat) : dg (4294967296 ^ d * m) (d + t) = dg m t := by
  unfold dg
  rw [Nat.pow_add, ← Nat.div_div_eq_div_mul, Nat.mul_div_cancel_left _ (Nat.pow_pos (by decide))]

theorem dg_bit_zero (K s t : Nat) (hs : s < 32) : dg (2 ^ s * (2 * K + 1)) t = if t = 0 then dg (2 ^ s * (2 * K)) 0 + 2 ^ s else dg (2 ^ s * (2 * K)) t := by
  have hB : (4294967296 : Nat) = 2 ^ s * 2 ^ (32 - s) := by rw [← Nat.pow_add, show s + (32 - s) = 32 by omega]
  obtain ⟨u, hu⟩ : ∃ u, 32 - s = u + 1 := ⟨31 - s, by omega⟩
  have hP : 0 < 2 ^ s := Nat.pow_pos (by decide)
  have hU : 0 < 2 ^ u := Nat.pow_pos (by decide)
  rw [hu, Nat.pow_succ] at hB
  have h1 : 2 ^ s * (2 * K + 1) % 4294967296 = 2 ^ s * (2 * K) % 4294967296 + 2 ^ s := by
    rw [hB, Nat.mul_mod_mul_left, Nat.mul_mod_mul_left]
    have : (2 * K + 1) % (2 ^ u * 2) = 2 * K % (2 ^ u * 2) + 1 := by
      rw [Nat.mul_comm (2 ^ u), Nat.mul_mod_mul_left, Nat.mod_mul]
      rw [show (2 * K + 1) / 2 = K by omega]
      omega
    rw [this, Nat.mul_add, Nat.mul_one]
  have h2 : 2 ^ s * (2 * K + 1) / 4294967296 = 2 ^ s * (2 * K) / 4294967296 := by
    rw [hB, Nat.mul_div_mul_left _ _ hP, Nat.mul_div_mul_left _ _ hP, Nat.mul_comm (2 ^ u), ← Nat.div_div_eq_div_mul, ← Nat.div_div_eq_div_mul]
    rw [show (2 * K + 1) / 2 = K by omega, show 2 * K / 2 = K by omega]
  cases t with
  | zero => rw [if_pos rfl]; unfold dg; rw [Nat.pow_zero, Nat.div_one, Nat.div_one]; exact h1
  | succ t =>
    rw [if_neg (by omega)]
    unfold dg
    rw [Nat.pow_succ, Nat.mul_comm (4294967296 ^ t), ← Nat.div_div_eq_div_mul, ← Nat.div_div_eq_div_mul, h2]

theorem pow32 (i : Nat) : 2 ^ i = 4294967296 ^ (i / 32) * 2 ^ (i % 32) := by
  rw [show (4294967296 : Nat) = 2 ^ 32 by decide, ← Nat.pow_mul, ← Nat.pow_add, Nat.div_add_mod]

theorem dg_add_bit (K i j : Nat) : dg (K * 2 ^ (i + 1) + 2 ^ i) j = if j = i / 32 then dg (K * 2 ^ (i + 1)) j + 2 ^ (i % 32) else dg (K * 2 ^ (i + 1)) j := by
  have e1 : K * 2 ^ (i + 1) + 2 ^ i = 4294967296 ^ (i / 32) * (2 ^ (i % 32) * (2 * K + 1)) := by
    rw [← Nat.mul_assoc, ← pow32, Nat.pow_succ, Nat.mul_add, Nat.mul_one, Nat.mul_comm K, Nat.mul_assoc]
  have e2 : K * 2 ^ (i + 1) = 4294967296 ^ (i / 32) * (2 ^ (i % 32) * (2 * K)) := by
    rw [← Nat.mul_assoc, ← pow32, Nat.pow_succ, Nat.mul_comm K, Nat.mul_assoc]
  rw [e1, e2]
  rcases Nat.lt_or_ge j (i / 32) with h | h
  · rw [dg_shift_low _ _ _ h, dg_shift_low _ _ _ h, if_neg (by omega)]
  · obtain ⟨t, rfl⟩ : ∃ t, j = i / 32 + t := ⟨j - i / 32, by omega⟩
    rw [dg_shift_high, dg_shift_high, dg_bit_zero _ _ _ (Nat.mod_lt _ (by decide))]
    by_cases ht : t = 0
    · subst ht; rw [if_pos rfl, if_pos (Nat.add_zero _)]
    · rw [if_neg ht, if_neg (by omega)]

theorem dg_bit (A i : Nat) : dg A (i / 32) / 2 ^ (i % 32) % 2 = A / 2 ^ i % 2 := by
  unfold dg
  have h := Nat.mod_lt i (show 0 < 32 by decide)
  rw [pow32 i, ← Nat.div_div_eq_div_mul]
  generalize A / 4294967296 ^ (i / 32) = x
  rw [← Nat.toNat_testBit, ← Nat.toNat_testBit, show (4294967296 : Nat) = 2 ^ 32 by decide, Nat.testBit_mod_two_pow]
  simp [h]

/-- One more bit of a division. -/
theorem split_step (A B i : Nat) (hB : 0 < B) :
    A / 2 ^ i = 2 * (A / 2 ^ (i + 1)) + A / 2 ^ i % 2 ∧
    (2 * (A / 2 ^ (i + 1) % B) + A / 2 ^ i % 2 < B → A / 2 ^ i % B = 2 * (A / 2 ^ (i + 1) % B) + A / 2 ^ i % 2 ∧ A / 2 ^ i / B * 2 ^ i = A / 2 ^ (i + 1) / B * 2 ^ (i + 1)) ∧
    (B ≤ 2 * (A / 2 ^ (i + 1) % B) + A / 2 ^ i % 2 → A / 2 ^ i % B = 2 * (A / 2 ^ (i + 1) % B) + A / 2 ^ i % 2 - B ∧ A / 2 ^ i / B * 2 ^ i = A / 2 ^ (i + 1) / B * 2 ^ (i + 1) + 2 ^ i) := by
  have e : A / 2 ^ (i + 1) = A / 2 ^ i / 2 := by rw [Nat.pow_succ, Nat.div_div_eq_div_mul]
  rw [e, Nat.pow_succ]
  generalize A / 2 ^ i = m
  generalize 2 ^ i = P
  have h1 := Nat.div_add_mod (m / 2) B
  have h2 := Nat.mod_lt (m / 2) hB
  generalize m / 2 / B = q at *
  generalize m / 2 % B = r at *
  have h3 : m = B * (2 * q) + (2 * r + m % 2) := by
    have : B * (2 * q) = 2 * (B * q) := by rw [← Nat.mul_assoc, Nat.mul_comm B 2, Nat.mul_assoc]
    omega
  refine ⟨by omega, fun h => ?_, fun h => ?_⟩
  · have hm : m % B = 2 * r + m % 2 := by
      generalize m % 2 = b at *
      rw [h3, Nat.mul_add_mod, Nat.mod_eq_of_lt h]
    have hd : m / B = 2 * q := by
      generalize m % 2 = b at *
      rw [h3, Nat.mul_add_div hB, Nat.div_eq_of_lt h]; omega
    refine ⟨hm, ?_⟩
    rw [hd, Nat.mul_comm 2 q, Nat.mul_assoc, Nat.mul_comm P 2]
  · have h4 : m = B * (2 * q + 1) + (2 * r + m % 2 - B) := by rw [Nat.mul_add, Nat.mul_one]; omega
    have h5 : 2 * r + m % 2 - B < B := by omega
    have hm : m % B = 2 * r + m % 2 - B := by
      generalize m % 2 = b at *
      rw [h4, Nat.mul_add_mod, Nat.mod_eq_of_lt h5]
    have hd : m / B = 2 * q + 1 := by
      generalize m % 2 = b at *
      rw [h4, Nat.mul_add_div hB, Nat.div_eq_of_lt h5]
    refine ⟨hm, ?_⟩
    rw [hd, Nat.add_mul, Nat.one_mul, Nat.mul_comm 2 q, Nat.mul_assoc, Nat.mul_comm P 2]

theorem topStep (A k : Nat) (hA : A < 4294967296 ^ (k + 1 + 1)) (h : dg A (k + 1) = 0) : A < 4294967296 ^ (k + 1) := by
  unfold dg at h
  have h1 : A / 4294967296 ^ (k + 1) < 4294967296 := by
    rw [Nat.div_lt_iff_lt_mul (Nat.pow_pos (by decide)), Nat.mul_comm, ← Nat.pow_succ]
    exact hA
  rw [Nat.mod_eq_of_lt h1] at h
  rcases Nat.lt_or_ge A (4294967296 ^ (k + 1)) with h2 | h2
  · exact h2
  · have := Nat.div_pos h2 (Nat.pow_pos (by decide))
    omega

theorem topZero (A k : Nat) (hA : A < 4294967296 ^ (k + 1)) : A / 2 ^ (32 * k + 32) = 0 := by
  rw [show 32 * k + 32 = 32 * (k + 1) by omega, Nat.pow_mul]
  exact Nat.div_eq_of_lt hA

/-- A bit of a number. -/
def bt (X i : Nat) : Nat := X / 2 ^ i % 2

theorem bt_le (X i : Nat) : bt X i ≤ 1 := by unfold bt; omega

theorem bt_test (X i : Nat) : bt X i = (X.testBit i).toNat := (Nat.toNat_testBit X i).symm

theorem pow64 (i : Nat) : 2 ^ i = 18446744073709551616 ^ (i / 64) * 2 ^ (i % 64) := by
  rw [show (18446744073709551616 : Nat) = 2 ^ 64 by decide, ← Nat.pow_mul, ← Nat.pow_add, Nat.div_add_mod]

theorem limb_bit (A i : Nat) : limb A (i / 64) / 2 ^ (i % 64) % 2 = bt A i := by
  unfold limb bt
  have h := Nat.mod_lt i (show 0 < 64 by decide)
  rw [pow64 i, ← Nat.div_div_eq_div_mul]
  generalize A / 18446744073709551616 ^ (i / 64) = x
  rw [← Nat.toNat_testBit, ← Nat.toNat_testBit, show (18446744073709551616 : Nat) = 2 ^ 64 by decide, Nat.testBit_mod_two_pow]
  simp [h]

theorem mod_bit (N i : Nat) : N % 2 ^ (i + 1) = N % 2 ^ i + bt N i * 2 ^ i := by
  unfold bt
  rw [Nat.mod_pow_succ, Nat.mul_comm]

theorem bt_mod (X i n : Nat) (h : i < n) : bt (X % 2 ^ n) i = bt X i := by
  rw [bt_test, bt_test, Nat.testBit_mod_two_pow]; simp [h]

theorem bt_mod_high (X i n : Nat) (h : n ≤ i) : bt (X % 2 ^ n) i = 0 := by
  rw [bt_test, Nat.testBit_mod_two_pow]
  have : ¬ i < n := by omega
  simp [this]

theorem limb_add_bit (O b i j : Nat) (hO : O < 2 ^ i) (hb : b ≤ 1) : limb (O + b * 2 ^ i) j = if j = i / 64 then limb O j + b * 2 ^ (i % 64) else limb O j := by
  have hs := Nat.mod_lt i (show 0 < 64 by decide)
  have hL : (0 : Nat) < 18446744073709551616 ^ j := Nat.pow_pos (by decide)
  rcases Nat.lt_trichotomy j (i / 64) with h | h | h
  · rw [if_neg (by omega)]
    obtain ⟨t, ht⟩ : ∃ t, i / 64 = j + (t + 1) := ⟨i / 64 - j - 1, by omega⟩
    unfold limb
    rw [pow64 i, ht, Nat.pow_add, Nat.pow_succ,
      show b * (18446744073709551616 ^ j * (18446744073709551616 ^ t * 18446744073709551616) * 2 ^ (i % 64)) = 18446744073709551616 ^ j * (18446744073709551616 * (b * 18446744073709551616 ^ t * 2 ^ (i % 64))) by
        rw [Nat.mul_left_comm, Nat.mul_comm (18446744073709551616 ^ t) 18446744073709551616]
        simp only [Nat.mul_assoc, Nat.mul_comm b], Nat.add_mul_div_left _ _ hL, Nat.add_mul_mod_self_left]
  · rw [if_pos h]
    unfold limb
    have h1 : O / 18446744073709551616 ^ j < 2 ^ (i % 64) := by
      rw [Nat.div_lt_iff_lt_mul hL, Nat.mul_comm, h, ← pow64]; exact hO
    have h2 : 2 ^ (i % 64) * 2 ≤ 18446744073709551616 := by
      rw [← Nat.pow_succ, show (18446744073709551616 : Nat) = 2 ^ 64 by decide]; exact Nat.pow_le_pow_right (by decide) (by omega)
    have h3 : b * 2 ^ (i % 64) ≤ 2 ^ (i % 64) := by
      rcases (show b = 0 ∨ b = 1 by omega) with e | e <;> rw [e] <;> omega
    have h4 : b * 2 ^ i = 18446744073709551616 ^ j * (b * 2 ^ (i % 64)) := by rw [pow64 i, ← h, Nat.mul_left_comm]
    rw [h4, Nat.add_mul_div_left _ _ hL]
    generalize b * 2 ^ (i % 64) = c at *
    rw [Nat.mod_eq_of_lt (by omega), Nat.mod_eq_of_lt (by omega)]
  · rw [if_neg (by omega)]
    unfold limb
    have h1 : 2 ^ (i + 1) ≤ 18446744073709551616 ^ j := by
      rw [show (18446744073709551616 : Nat) = 2 ^ 64 by decide, ← Nat.pow_mul]; exact Nat.pow_le_pow_right (by decide) (by omega)
    have h3 : b * 2 ^ i ≤ 2 ^ i := by
      rcases (show b = 0 ∨ b = 1 by omega) with e | e <;> rw [e] <;> omega
    rw [Nat.pow_succ] at h1
    rw [Nat.div_eq_of_lt (by omega), Nat.div_eq_of_lt (by omega)]

theorem bt_and (X Y i : Nat) : bt (X &&& Y) i = bt X i * bt Y i := by
  simp only [bt_test, Nat.testBit_and]
  cases X.testBit i <;> cases Y.testBit i <;> rfl

theorem bt_or (X Y i : Nat) : bt (X ||| Y) i = bt X i + bt Y i - bt X i * bt Y i := by
  simp only [bt_test, Nat.testBit_or]
  cases X.testBit i <;> cases Y.testBit i <;> rfl

theorem bt_xor (X Y i : Nat) : bt (X ^^^ Y) i = (bt X i + bt Y i) % 2 := by
  simp only [bt_test, Nat.testBit_xor]
  cases X.testBit i <;> cases Y.testBit i <;> rfl

theorem bt_shl (X n i : Nat) : bt (X * 2 ^ n) i = if i < n then 0 else bt X (i - n) := by
  rw [bt_test, Nat.testBit_mul_two_pow]
  by_cases h : i < n
  · rw [if_pos h]; have : ¬ i ≥ n := by omega
    simp [this]
  · rw [if_neg h]; have : i ≥ n := by omega
    simp [this, bt_test]

theorem bt_shr (X n i : Nat) : bt (X / 2 ^ n) i = bt X (i + n) := by
  unfold bt
  rw [Nat.div_div_eq_div_mul, ← Nat.pow_add, Nat.add_comm n i]

theorem bt_high (X i n : Nat) (h : X < 2 ^ n) (hi : n ≤ i) : bt X i = 0 := by
  unfold bt
  rw [Nat.div_eq_of_lt (Nat.lt_of_lt_of_le h (Nat.pow_le_pow_right (by decide) hi))]

theorem bt_not (X i n : Nat) (h : X < 2 ^ n) (hi : i < n) : bt (2 ^ n - 1 - X) i = 1 - bt X i := by
  have e : 2 ^ n - 1 - X = 2 ^ n - (X + 1) := by omega
  rw [bt_test, bt_test, e, Nat.testBit_two_pow_sub_succ h]
  simp [hi]
  cases X.testBit i <;> rfl

end Go.Proofs.Ytpnijncoldihfaa
