/-
  Digits to the base 16, as a number's words.
-/
import Derived.Test.YtiekipkmfopdoaaEnds
namespace Go.Proofs.Ytiekipkmfopdoaa
open Go.RowKit Go.Shelf

/-- A text's sign. -/
def sb (s : ByteArray) (j : Nat) : Nat := (s.data[j]?.getD 0).toNat

theorem sb_lt (s : ByteArray) (j : Nat) : sb s j < 256 := UInt8.toNat_lt _

theorem index_sb (s : ByteArray) (k : Nat) (hk : k < s.size) (W : World) : (Instr.index 9 (.string s) (.int .i64 (k : Int))).run Try.prog W = .ok (.int .u8 (sb s k)) W := by
  have hd : s.data[k]? = some s.data[k] := Array.getElem?_eq_getElem hk
  have h := run_index_string (P := Try.prog) (w := W) 9 s .i64 (k : Int) Try.underlying9
  rw [h]
  unfold sb
  rw [hd]
  have e : ((k : Int)).toNat = k := by omega
  have g : ¬ ((k : Int) < 0 ∨ (s.size : Int) ≤ (k : Int)) := by omega
  simp [e, hk]
  rfl

/-- What a digit's sign stands for. -/
def hxd (c : Nat) : Nat := if 97 ≤ c then c - 97 + 10 else c - 48

/-- The number of the last k signs. -/
def hxv (s : ByteArray) : Nat → Nat
  | 0 => 0
  | k + 1 => hxv s k + hxd (sb s (s.size - 1 - k)) * 16 ^ k

theorem limb_add_digit (V d k j : Nat) (hV : V < 16 ^ k) (hd : d < 16) : limb (V + d * 16 ^ k) j = if j = k / 16 then limb V j + d * 2 ^ (4 * (k % 16)) else limb V j := by
  have e : (16 : Nat) ^ k = 2 ^ (4 * (k % 16)) * 18446744073709551616 ^ (k / 16) := by
    rw [show (18446744073709551616 : Nat) = 2 ^ 64 by decide, ← Nat.pow_mul, ← Nat.pow_add, show (16 : Nat) = 2 ^ 4 by decide, ← Nat.pow_mul]
    congr 1
    omega
  have hlow : V / 18446744073709551616 ^ (k / 16) < 2 ^ (4 * (k % 16)) := by
    rw [Nat.div_lt_iff_lt_mul (Nat.pow_pos (by decide)), ← e]
    exact hV
  have hp : 2 ^ (4 * (k % 16)) ≤ 2 ^ 60 := Nat.pow_le_pow_right (by decide) (by omega)
  unfold limb
  by_cases h : j = k / 16
  · subst h
    rw [if_pos rfl, e, ← Nat.mul_assoc, Nat.add_mul_div_right _ _ (Nat.pow_pos (by decide))]
    have h60 : (2 : Nat) ^ 60 = 1152921504606846976 := by decide
    have hm : d * 2 ^ (4 * (k % 16)) ≤ 15 * 2 ^ (4 * (k % 16)) := Nat.mul_le_mul_right _ (by omega)
    generalize d * 2 ^ (4 * (k % 16)) = D at *
    generalize 2 ^ (4 * (k % 16)) = P at *
    generalize V / 18446744073709551616 ^ (k / 16) = Q at *
    omega
  · rw [if_neg h]
    rcases Nat.lt_or_gt_of_ne h with h1 | h1
    · have hk : k / 16 = (k / 16 - j - 1) + 1 + j := by omega
      have e2 : d * 16 ^ k = d * 2 ^ (4 * (k % 16)) * 18446744073709551616 ^ (k / 16 - j - 1) * 18446744073709551616 * 18446744073709551616 ^ j := by
        rw [e]
        conv => lhs; rw [hk, Nat.pow_add, Nat.pow_succ]
        simp only [Nat.mul_assoc]
      rw [e2, Nat.add_mul_div_right _ _ (Nat.pow_pos (by decide)), Nat.add_mul_mod_self_right]
    · have hz : ∀ N, N < 16 ^ (k + 1) → N / 18446744073709551616 ^ j = 0 := fun N hN => by
        apply Nat.div_eq_of_lt
        refine Nat.lt_of_lt_of_le hN ?_
        rw [show (18446744073709551616 : Nat) = 16 ^ 16 by decide, ← Nat.pow_mul]
        exact Nat.pow_le_pow_right (by decide) (by omega)
      have hN : V + d * 16 ^ k < 16 ^ (k + 1) := by
        rw [Nat.pow_succ]
        have := Nat.mul_le_mul_right (16 ^ k) (show d ≤ 15 by omega)
        omega
      rw [hz _ hN, hz V (Nat.lt_trans hV (Nat.pow_lt_pow_right (by decide) (by omega)))]

/-- All signs are digits to the base 16. -/
def hexText (s : ByteArray) : Prop := ∀ j, j < s.size → (48 ≤ sb s j ∧ sb s j ≤ 57) ∨ (97 ≤ sb s j ∧ sb s j ≤ 102)

theorem hxd_lt {c : Nat} (h : (48 ≤ c ∧ c ≤ 57) ∨ (97 ≤ c ∧ c ≤ 102)) : hxd c < 16 := by
  unfold hxd
  split <;> omega

theorem hxv_lt {s : ByteArray} (hs : hexText s) : ∀ k, k ≤ s.size → hxv s k < 16 ^ k
  | 0, _ => by simp [hxv]
  | k + 1, h => by
    have ih := hxv_lt hs k (by omega)
    have hd := hxd_lt (hs (s.size - 1 - k) (by omega))
    rw [hxv, Nat.pow_succ]
    have := Nat.mul_le_mul_right (16 ^ k) (show hxd (sb s (s.size - 1 - k)) ≤ 15 by omega)
    omega

theorem or_digit (a d n : Nat) (ha : a < 2 ^ n) (hd : d < 16) (hn : n ≤ 60) : bits .or .u64 (a : Int) ((d * 2 ^ n : Nat) : Int) = ((a + d * 2 ^ n : Nat) : Int) := by
  have hp : 2 ^ n ≤ 2 ^ 60 := Nat.pow_le_pow_right (by decide) hn
  have h60 : (2 : Nat) ^ 60 = 1152921504606846976 := by decide
  have hm := Nat.mul_le_mul_right (2 ^ n) (show d ≤ 15 by omega)
  have h := bits_or_u64_nat a (d * 2 ^ n) (by omega) (by omega)
  have e : a ||| d * 2 ^ n = a + d * 2 ^ n := by
    rw [Nat.mul_comm, Nat.or_comm, ← Nat.two_pow_add_eq_or_of_lt ha d, Nat.add_comm]
  rw [h, e]

theorem limb_low_digit {V k : Nat} (hV : V < 16 ^ k) : limb V (k / 16) < 2 ^ (4 * (k % 16)) := by
  unfold limb
  refine Nat.lt_of_le_of_lt (Nat.mod_le _ _) ?_
  rw [Nat.div_lt_iff_lt_mul (Nat.pow_pos (by decide)), show (18446744073709551616 : Nat) = 2 ^ 64 by decide, ← Nat.pow_mul, ← Nat.pow_add]
  refine Nat.lt_of_lt_of_le hV ?_
  rw [show (16 : Nat) = 2 ^ 4 by decide, ← Nat.pow_mul]
  exact Nat.pow_le_pow_right (by decide) (by omega)

end Go.Proofs.Ytiekipkmfopdoaa
