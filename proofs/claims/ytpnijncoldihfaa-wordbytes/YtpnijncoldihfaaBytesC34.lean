/-
  Numbers out of bytes.
-/
import Derived.Test.YtpnijncoldihfaaBytesC11
import Derived.Test.YtpnijncoldihfaaBytesC14
import Derived.Test.YtpnijncoldihfaaBytesC24
namespace Go.Proofs.Ytpnijncoldihfaa
open Go.RowKit Go.Shelf

namespace Sh
theorem or_add {a b Q : Nat} {p : Nat} (hQ : Q = 2 ^ p) (hb : b < Q) : a * Q ||| b = a * Q + b := by
  subst hQ
  rw [Nat.mul_comm]
  exact (Nat.two_pow_add_eq_or_of_lt hb a).symm

end Sh

end Go.Proofs.Ytpnijncoldihfaa

namespace Go.Proofs.Ytpnijncoldihfaa
open Go.RowKit Go.Shelf

/-- The number of the lowest k of n bytes, the highest first. -/
def rdv (bs : Nat → Nat) (n : Nat) : Nat → Nat
  | 0 => 0
  | k + 1 => rdv bs n k + bs (n - 1 - k) * 2 ^ (8 * k)

theorem rdv_lt (bs : Nat → Nat) (n : Nat) (h : ∀ j, bs j < 256) : ∀ k, rdv bs n k < 2 ^ (8 * k)
  | 0 => by simp [rdv]
  | k + 1 => by
    have h1 := rdv_lt bs n h k
    have h2 : (bs (n - 1 - k) + 1) * 2 ^ (8 * k) ≤ 256 * 2 ^ (8 * k) := Nat.mul_le_mul_right _ (h _)
    rw [show 8 * (k + 1) = 8 * k + 8 by omega, Nat.pow_add, show (2 : Nat) ^ 8 = 256 by decide, Nat.mul_comm _ 256]
    rw [Nat.add_mul, Nat.one_mul] at h2
    unfold rdv
    omega

theorem pow_byte (k : Nat) : 2 ^ (8 * k) = 18446744073709551616 ^ (k / 8) * 2 ^ (8 * (k % 8)) := by
  rw [show (18446744073709551616 : Nat) = 2 ^ 64 by decide, ← Nat.pow_mul, ← Nat.pow_add]
  congr 1
  omega

theorem limb_add_byte (V b k j : Nat) (hV : V < 2 ^ (8 * k)) (hb : b < 256) : limb (V + b * 2 ^ (8 * k)) j = if j = k / 8 then limb V j + b * 2 ^ (8 * (k % 8)) else limb V j := by
  have hs := Nat.mod_lt k (show 0 < 8 by decide)
  have hL : (0 : Nat) < 18446744073709551616 ^ j := Nat.pow_pos (by decide)
  rcases Nat.lt_trichotomy j (k / 8) with h | h | h
  · rw [if_neg (by omega)]
    obtain ⟨t, ht⟩ : ∃ t, k / 8 = j + (t + 1) := ⟨k / 8 - j - 1, by omega⟩
    unfold limb
    rw [pow_byte k, ht, Nat.pow_add, Nat.pow_succ,
      show b * (18446744073709551616 ^ j * (18446744073709551616 ^ t * 18446744073709551616) * 2 ^ (8 * (k % 8))) = 18446744073709551616 ^ j * (18446744073709551616 * (b * 18446744073709551616 ^ t * 2 ^ (8 * (k % 8)))) by
        rw [Nat.mul_left_comm, Nat.mul_comm (18446744073709551616 ^ t) 18446744073709551616]
        simp only [Nat.mul_assoc, Nat.mul_comm b], Nat.add_mul_div_left _ _ hL, Nat.add_mul_mod_self_left]
  · rw [if_pos h]
    unfold limb
    have h1 : V / 18446744073709551616 ^ j < 2 ^ (8 * (k % 8)) := by
      rw [Nat.div_lt_iff_lt_mul hL, Nat.mul_comm, h, ← pow_byte]; exact hV
    have h2 : 256 * 2 ^ (8 * (k % 8)) ≤ 18446744073709551616 := by
      rw [show (256 : Nat) = 2 ^ 8 by decide, ← Nat.pow_add, show (18446744073709551616 : Nat) = 2 ^ 64 by decide]; exact Nat.pow_le_pow_right (by decide) (by omega)
    have h3 : (b + 1) * 2 ^ (8 * (k % 8)) ≤ 256 * 2 ^ (8 * (k % 8)) := Nat.mul_le_mul_right _ hb
    rw [Nat.add_mul, Nat.one_mul] at h3
    have h4 : b * 2 ^ (8 * k) = 18446744073709551616 ^ j * (b * 2 ^ (8 * (k % 8))) := by rw [pow_byte k, ← h, Nat.mul_left_comm]
    rw [h4, Nat.add_mul_div_left _ _ hL]
    generalize b * 2 ^ (8 * (k % 8)) = c at *
    rw [Nat.mod_eq_of_lt (by omega), Nat.mod_eq_of_lt (by omega)]
  · rw [if_neg (by omega)]
    unfold limb
    have h1 : 256 * 2 ^ (8 * k) ≤ 18446744073709551616 ^ j := by
      rw [show (256 : Nat) = 2 ^ 8 by decide, ← Nat.pow_add, show (18446744073709551616 : Nat) = 2 ^ 64 by decide, ← Nat.pow_mul]; exact Nat.pow_le_pow_right (by decide) (by omega)
    have h3 : (b + 1) * 2 ^ (8 * k) ≤ 256 * 2 ^ (8 * k) := Nat.mul_le_mul_right _ hb
    rw [Nat.add_mul, Nat.one_mul] at h3
    rw [Nat.div_eq_of_lt (by omega), Nat.div_eq_of_lt (by omega)]

theorem limb_low (V k : Nat) (hV : V < 2 ^ (8 * k)) : limb V (k / 8) < 2 ^ (8 * (k % 8)) := by
  unfold limb
  refine Nat.lt_of_le_of_lt (Nat.mod_le _ _) ?_
  rw [Nat.div_lt_iff_lt_mul (Nat.pow_pos (by decide)), Nat.mul_comm, ← pow_byte]
  exact hV

end Go.Proofs.Ytpnijncoldihfaa
