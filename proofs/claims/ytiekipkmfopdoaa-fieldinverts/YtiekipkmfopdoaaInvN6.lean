/-
  Inverses and roots modulo a prime: what elements of 6 limbs stand for.
-/
import Derived.Test.YtiekipkmfopdoaaRoot6
import Derived.Test.YtiekipkmfopdoaaOrd
namespace Go.Proofs.Ytiekipkmfopdoaa.W6
open Go.RowKit Go.Shelf

theorem el_of_mod {m X Y : Nat} (h : X % m = Y % m) : el m X = el m Y := by
  unfold el
  rw [← Nat.mod_mul_mod X, h, Nat.mod_mul_mod]

theorem inv_of_zero {m A : Nat} (h3 : 3 ≤ m) (h : A % m = 0) : el m (A ^ (m - 2)) = el m 0 := by
  apply el_of_mod
  obtain ⟨k, hk⟩ : ∃ k, m - 2 = k + 1 := ⟨m - 3, by omega⟩
  rw [hk, Nat.pow_succ, Nat.mul_mod, h, Nat.mul_zero, Nat.zero_mod]

theorem inv_of {m A : Nat} (h3 : 3 ≤ m) (hf : Ferm m) (h : A % m ≠ 0) : el m (A * A ^ (m - 2)) = el m 1 := by
  apply el_of_mod
  have e : A * A ^ (m - 2) = A ^ (m - 1) := by
    rw [Nat.mul_comm, ← Nat.pow_succ]
    congr 1
    omega
  rw [e, hf A h, Nat.mod_eq_of_lt (by omega)]

theorem root_of {m A : Nat} (h3 : 3 ≤ m) (h4 : m % 4 = 3) (hf : Ferm m) : el m ((A * A) ^ ((m + 1) / 4) * (A * A) ^ ((m + 1) / 4)) = el m (A * A) := by
  apply el_of_mod
  by_cases h : A % m = 0
  · have h0 : A * A % m = 0 := by rw [Nat.mul_mod, h, Nat.mul_zero, Nat.zero_mod]
    obtain ⟨k, hk⟩ : ∃ k, (m + 1) / 4 = k + 1 := ⟨(m + 1) / 4 - 1, by omega⟩
    have h1 : (A * A) ^ ((m + 1) / 4) % m = 0 := by rw [hk, Nat.pow_succ, Nat.mul_mod, h0, Nat.mul_zero, Nat.zero_mod]
    rw [Nat.mul_mod, h1, Nat.mul_zero, Nat.zero_mod, h0]
  · have e : (A * A) ^ ((m + 1) / 4) * (A * A) ^ ((m + 1) / 4) = A ^ (m - 1) * (A * A) := by
      rw [← Nat.pow_add, show A * A = A ^ 2 by rw [Nat.pow_two], ← Nat.pow_mul, ← Nat.pow_add]
      congr 1
      omega
    rw [e, Nat.mul_mod, hf A h, Nat.one_mul, Nat.mod_mod]

theorem root_good {m A : Nat} (h3 : 3 ≤ m) (h4 : m % 4 = 3) (hf : Ferm m) : rootN m (A * A) = el m ((A * A) ^ ((m + 1) / 4)) ∧ rootB m (A * A) = true := by
  have h := root_of (A := A) h3 h4 hf
  unfold rootN rootB
  exact ⟨if_pos h, decide_eq_true h⟩

/-- A root that may be none, as an element. -/
theorem root_some (m X : Nat) : ∃ Y, rootN m X = el m Y := by
  unfold rootN
  by_cases h : el m (X ^ ((m + 1) / 4) * X ^ ((m + 1) / 4)) = el m X
  · rw [if_pos h]
    exact ⟨_, rfl⟩
  · rw [if_neg h]
    exact ⟨0, by simp [el]⟩

theorem el_zero_iff {m f A : Nat} (h : MF m f) : el m A = el m 0 ↔ A % m = 0 := by
  constructor
  · intro e
    have := el_inj h e
    rwa [Nat.zero_mod] at this
  · intro e
    exact el_of_mod (by rw [e, Nat.zero_mod])

end Go.Proofs.Ytiekipkmfopdoaa.W6
