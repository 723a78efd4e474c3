/-
  Signed division, in numbers.
-/
import Derived.Test.YtpnijncoldihfaaSDivA
import Derived.Test.YtpnijncoldihfaaCmp
namespace Go.Proofs.Ytpnijncoldihfaa
open Go.RowKit Go.Shelf

/-- A stands for z, modulo 2^256. -/
def Cong (A : Nat) (z : Int) : Prop := ∃ k : Int, (A : Int) = z + M256 * k

theorem Cong.self (A : Nat) : Cong A A := ⟨0, by omega⟩
theorem Cong.mod (A : Nat) : Cong A ((A % M256 : Nat) : Int) := ⟨(A / M256 : Nat), by
  have := Nat.mod_add_div A M256
  have e : ((A % M256 + M256 * (A / M256) : Nat) : Int) = (A : Int) := by rw [this]
  rw [← e, Int.natCast_add, Int.natCast_mul]⟩
theorem Cong.of_mod {A : Nat} {z : Int} (h : Cong (A % M256) z) : Cong A z := by
  obtain ⟨k, hk⟩ := h
  obtain ⟨j, hj⟩ := Cong.mod A
  exact ⟨k + j, by rw [hj, hk, Int.mul_add]; omega⟩
theorem Cong.to_mod {A : Nat} {z : Int} (h : Cong A z) : Cong (A % M256) z := by
  obtain ⟨k, hk⟩ := h
  obtain ⟨j, hj⟩ := Cong.mod A
  exact ⟨k - j, by rw [Int.mul_sub]; omega⟩
theorem Cong.add {A B : Nat} {y z : Int} (h : Cong A y) (g : Cong B z) : Cong (A + B) (y + z) := by
  obtain ⟨k, hk⟩ := h
  obtain ⟨j, hj⟩ := g
  exact ⟨k + j, by rw [Int.natCast_add, hk, hj, Int.mul_add]; omega⟩
theorem Cong.mul {A B : Nat} {y z : Int} (h : Cong A y) (g : Cong B z) : Cong (A * B) (y * z) := by
  obtain ⟨k, hk⟩ := h
  obtain ⟨j, hj⟩ := g
  refine ⟨y * j + k * z + k * (M256 * j), ?_⟩
  rw [Int.natCast_mul, hk, hj, Int.add_mul, Int.mul_add, Int.mul_add (M256 * k), Int.mul_add, Int.mul_add]
  have e1 : y * (M256 * j) = M256 * (y * j) := by rw [Int.mul_left_comm]
  have e2 : (M256 : Int) * k * z = M256 * (k * z) := by rw [Int.mul_assoc]
  have e3 : (M256 : Int) * k * (M256 * j) = M256 * (k * (M256 * j)) := by rw [Int.mul_assoc]
  rw [e1, e2, e3]
  omega
theorem Cong.neg {A : Nat} {z : Int} (h : Cong A z) : Cong (negN A) (-z) := by
  obtain ⟨k, hk⟩ := h.to_mod
  have hl := Nat.mod_lt A M256_pos
  refine ⟨1 - k, ?_⟩
  unfold negN
  rw [Int.mul_sub, Int.mul_one]
  omega
theorem wv_cong {A B : Nat} {z : Int} (h : Cong A z) (g : Cong B z) : wv A = wv B := by
  apply wv_congr
  obtain ⟨k, hk⟩ := h.to_mod
  obtain ⟨j, hj⟩ := g.to_mod
  have ha := Nat.mod_lt A M256_pos
  have hb := Nat.mod_lt B M256_pos
  generalize A % M256 = a at *
  generalize B % M256 = b at *
  have hd : (a : Int) - b = M256 * (k - j) := by rw [Int.mul_sub]; omega
  have hp : (0 : Int) < M256 := by decide
  rcases Int.lt_trichotomy (k - j) 0 with h | h | h
  · have : (M256 : Int) * (k - j) ≤ M256 * (-1) := Int.mul_le_mul_of_nonneg_left (by omega) (by omega)
    omega
  · rw [h, Int.mul_zero] at hd
    omega
  · have : (M256 : Int) * 1 ≤ M256 * (k - j) := Int.mul_le_mul_of_nonneg_left (by omega) (by omega)
    omega

/-- The sign of a number. -/
def sg (b : Bool) (z : Int) : Int := if b then -z else z

theorem size_cong (X : Nat) : Cong X (sg (negB X) ((sizeN X % M256 : Nat) : Int)) := by
  unfold sg sizeN
  by_cases h : negB X = true
  · rw [if_pos h, if_pos h]
    have h1 := (Cong.mod (negN X))
    have h2 := h1.neg
    have h3 : Cong (negN X) (-(X : Int)) := (Cong.self X).neg
    obtain ⟨k, hk⟩ := h3
    obtain ⟨j, hj⟩ := h1
    exact ⟨k - j, by rw [Int.mul_sub]; omega⟩
  · rw [if_neg h, if_neg h]
    exact Cong.mod X

theorem signed_cong (b : Bool) (Q : Nat) : Cong (signedN b Q) (sg b Q) := by
  unfold signedN sg
  cases b
  · exact Cong.self Q
  · exact (Cong.self Q).neg

theorem sdiv_back {X Y : Nat} (h : 0 < sizeN Y % M256) :
    wv (signedN (negB X != negB Y) (sizeN X % M256 / (sizeN Y % M256)) * Y + signedN (negB X) (restN (sizeN X % M256) (sizeN Y % M256))) = wv X := by
  have hx := size_cong X
  have hy := size_cong Y
  unfold restN
  rw [if_neg (by omega)]
  have hd := Nat.div_add_mod (sizeN X % M256) (sizeN Y % M256)
  generalize sizeN X % M256 = a at *
  generalize sizeN Y % M256 = b at *
  have hs := signed_cong (negB X != negB Y) (a / b)
  have hr := signed_cong (negB X) (a % b)
  generalize a / b = q at *
  generalize a % b = r at *
  refine wv_cong ((hs.mul hy).add hr) ?_
  have hdi : (a : Int) = b * q + r := by rw [← hd, Int.natCast_add, Int.natCast_mul]
  have key : sg (negB X != negB Y) (q : Int) * sg (negB Y) (b : Int) + sg (negB X) (r : Int) = sg (negB X) (a : Int) := by
    rw [hdi]
    unfold sg
    have hc : (q : Int) * b = b * q := Int.mul_comm _ _
    cases negB X <;> cases negB Y <;> simp [Int.neg_mul, Int.mul_neg, hc] <;> omega
  rw [key]
  exact hx

theorem size_le (Y : Nat) : sizeN Y % M256 ≤ S255 := by
  unfold sizeN negB negN
  have hl := Nat.mod_lt Y M256_pos
  have hS : M256 = S255 + S255 := by decide
  by_cases h : S255 ≤ Y % M256
  · rw [if_pos (decide_eq_true h)]
    have h0 : 0 < Y % M256 := Nat.lt_of_lt_of_le (by decide) h
    rw [Nat.mod_eq_of_lt (by omega)]
    omega
  · rw [if_neg (by simpa using h)]
    omega

theorem size_zero {Y : Nat} (h : Y % M256 ≠ 0) : 0 < sizeN Y % M256 := by
  unfold sizeN negN
  have hl := Nat.mod_lt Y M256_pos
  split
  · rw [Nat.mod_eq_of_lt (by omega)]
    omega
  · omega

theorem rest_sign {X Y : Nat} (h : Y % M256 ≠ 0) (ht : signedN (negB X) (restN (sizeN X % M256) (sizeN Y % M256)) % M256 ≠ 0) :
    negB (signedN (negB X) (restN (sizeN X % M256) (sizeN Y % M256))) = negB X := by
  have hb := size_zero h
  have hle := size_le Y
  unfold restN at *
  rw [if_neg (by omega)] at *
  have hr := Nat.mod_lt (sizeN X % M256) hb
  generalize sizeN X % M256 % (sizeN Y % M256) = r at *
  have hS : M256 = S255 + S255 := by decide
  have hrS : r < S255 := by omega
  unfold signedN at *
  cases hx : negB X
  · simp only [Bool.false_eq_true, if_false] at *
    unfold negB
    rw [Nat.mod_eq_of_lt (by omega)]
    simp only [decide_eq_false_iff_not]
    omega
  · simp only [hx, if_true] at *
    unfold negB negN at *
    have hr0 : r ≠ 0 := by
      intro h0
      subst h0
      apply ht
      rw [Nat.zero_mod, Nat.sub_zero, Nat.mod_self]
    rw [Nat.mod_eq_of_lt (show r < M256 by omega)] at *
    rw [Nat.mod_eq_of_lt (show M256 - r < M256 by omega)]
    simp only [decide_eq_true_eq]
    omega

end Go.Proofs.Ytpnijncoldihfaa
