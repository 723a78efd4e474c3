/-
  The bits of shifted words, and of words whose sign was extended.
-/
import Derived.Test.YtpnijncoldihfaaBitsC12
import Derived.Test.YtpnijncoldihfaaBitsC25
namespace Go.Proofs.Ytpnijncoldihfaa
open Go.RowKit Go.Shelf

theorem M256_two : M256 = 2 ^ 256 := by decide

theorem bt_word (X i : Nat) (hi : i < 256) : bt (X % M256) i = bt X i := by
  rw [M256_two]; exact bt_mod X i 256 hi

theorem bt_word_high (X i : Nat) (hi : 256 ≤ i) : bt (X % M256) i = 0 := by
  rw [M256_two]; exact bt_mod_high X i 256 hi

theorem negB_bt (X : Nat) : negB X = decide (bt X 255 = 1) := by
  unfold negB bt
  have h : S255 = 2 ^ 255 := by decide
  have hm : M256 = 2 ^ 255 * 2 := by decide
  rw [h, hm, Nat.mod_mul]
  have h1 := Nat.mod_lt X (show 0 < 2 ^ 255 by decide)
  generalize X % 2 ^ 255 = r at *
  generalize X / 2 ^ 255 = q at *
  rw [Bool.eq_iff_iff, decide_eq_true_eq, decide_eq_true_eq]
  rcases (show q % 2 = 0 ∨ q % 2 = 1 by omega) with e | e
  · rw [e]; omega
  · rw [e]; omega

theorem bt_sar (n Y i : Nat) (hi : i < 256) : bt (sarN n Y) i = if i + n < 256 then bt Y (i + n) else bt Y 255 := by
  have hneg := negB_bt Y
  have hb := bt_le Y 255
  unfold sarN
  by_cases hn : negB Y = true
  · rw [if_pos hn]
    rw [hn] at hneg
    have h1 : bt Y 255 = 1 := by simpa using hneg.symm
    have hY : Y % M256 < 2 ^ 256 := Nat.lt_of_lt_of_le (Nat.mod_lt _ M256_pos) (by decide)
    have hZ : M256 - 1 - Y % M256 < 2 ^ 256 := by rw [M256_two] at hY ⊢; omega
    have hs : shrN n (M256 - 1 - Y % M256) % M256 = shrN n (M256 - 1 - Y % M256) ∧ shrN n (M256 - 1 - Y % M256) < 2 ^ 256 := by
      have : shrN n (M256 - 1 - Y % M256) < 2 ^ 256 := by
        unfold shrN
        split
        · exact Nat.lt_of_le_of_lt (Nat.div_le_self _ _) (Nat.lt_of_lt_of_le (Nat.mod_lt _ M256_pos) (by decide))
        · exact Nat.pow_pos (by decide)
      exact ⟨Nat.mod_eq_of_lt (by rw [M256_two]; exact this), this⟩
    rw [hs.1]
    have hv : bt (M256 - 1 - shrN n (M256 - 1 - Y % M256)) i = 1 - bt (shrN n (M256 - 1 - Y % M256)) i := by
      have := bt_not (shrN n (M256 - 1 - Y % M256)) i 256 hs.2 hi
      rwa [← M256_two] at this
    rw [hv]
    by_cases hin : i + n < 256
    · rw [if_pos hin]
      unfold shrN
      rw [if_pos (by omega), Nat.mod_eq_of_lt (show M256 - 1 - Y % M256 < M256 by rw [M256_two] at *; exact hZ), bt_shr]
      have h2 : bt (M256 - 1 - Y % M256) (i + n) = 1 - bt (Y % M256) (i + n) := by
        have := bt_not (Y % M256) (i + n) 256 hY hin
        rwa [← M256_two] at this
      rw [h2, bt_word _ _ hin]
      have := bt_le Y (i + n)
      omega
    · rw [if_neg hin, h1]
      unfold shrN
      split
      · rw [bt_shr, bt_word_high _ _ (by omega)]
      · rw [bt, Nat.zero_div]
  · rw [if_neg hn]
    have h0 : bt Y 255 = 0 := by
      have : negB Y = false := by simpa using hn
      rw [this] at hneg
      have h3 : ¬ bt Y 255 = 1 := by
        intro e
        rw [e] at hneg
        simp at hneg
      omega
    unfold shrN
    by_cases hin : i + n < 256
    · rw [if_pos hin, if_pos (by omega), bt_shr, bt_word _ _ hin]
    · rw [if_neg hin, h0]
      split
      · rw [bt_shr, bt_word_high _ _ (by omega)]
      · rw [bt, Nat.zero_div]

theorem bt_shlN (n X i : Nat) (hi : i < 256) : bt (shlN n X) i = if i < n then 0 else bt X (i - n) := by
  unfold shlN
  by_cases h : n < 256
  · rw [if_pos h, bt_shl]
  · rw [if_neg h, if_pos (by omega), bt, Nat.zero_div]

theorem bt_shrN (n X i : Nat) : bt (shrN n X) i = if i + n < 256 then bt X (i + n) else 0 := by
  unfold shrN
  by_cases h : i + n < 256
  · rw [if_pos h, if_pos (by omega), bt_shr, bt_word _ _ h]
  · rw [if_neg h]
    split
    · rw [bt_shr, bt_word_high _ _ (by omega)]
    · rw [bt, Nat.zero_div]

end Go.Proofs.Ytpnijncoldihfaa
