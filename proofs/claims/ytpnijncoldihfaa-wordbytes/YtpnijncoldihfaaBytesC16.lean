/-
  The arithmetic of long division: a guess by the highest limbs is right or one too great; numbers by their limbs.
-/
import Derived.Test.YtpnijncoldihfaaBytesC15
namespace Go.Proofs.Ytpnijncoldihfaa
open Go.RowKit Go.Shelf

namespace KD
theorem guess_le {B first second high mid low K vlow plow g R q : Nat}
    (hg : g * first + R = high * B + mid) (hRf : R < first ∨ (g + 1 = B))
    (hq : q * ((first * B + second) * K + vlow) ≤ ((high * B + mid) * B + low) * K + plow) (hqB : q < B)
    (hl : low < B) (hp : plow < K) : q ≤ g := by
  rcases hRf with hR | hR
  · apply Nat.le_of_not_lt
    intro hlt
    have h1 : (g + 1) * first ≤ q * first := Nat.mul_le_mul_right _ hlt
    have h2 : high * B + mid + 1 ≤ q * first := by rw [Nat.add_mul] at h1; omega
    have h3 : (high * B + mid + 1) * (B * K) ≤ q * first * (B * K) := Nat.mul_le_mul_right _ h2
    have h4 : q * first * (B * K) ≤ q * ((first * B + second) * K + vlow) := by
      have : first * (B * K) ≤ (first * B + second) * K + vlow := by
        rw [Nat.add_mul, Nat.mul_assoc]; omega
      rw [Nat.mul_assoc]
      exact Nat.mul_le_mul_left _ this
    have h5 : ((high * B + mid) * B + low) * K + plow < (high * B + mid + 1) * (B * K) := by
      have : ((high * B + mid) * B + low + 1) * K ≤ ((high * B + mid) * B + B) * K := Nat.mul_le_mul_right _ (by omega)
      have e : (high * B + mid + 1) * (B * K) = ((high * B + mid) * B + B) * K := by
        rw [← Nat.mul_assoc, Nat.add_mul (high * B + mid), Nat.one_mul]
      rw [e]
      rw [Nat.add_mul _ 1] at this
      omega
    omega
  · omega

theorem guess_hit {B first second high mid low K vlow plow g R q : Nat}
    (hg : g * first + R = high * B + mid) (ht : R * B + low < g * second)
    (hq : q * ((first * B + second) * K + vlow) ≤ ((high * B + mid) * B + low) * K + plow) (hp : plow < K) : q + 1 ≤ g := by
  apply Nat.lt_of_not_le
  intro hle
  have h1 : g * ((first * B + second) * K + vlow) ≤ q * ((first * B + second) * K + vlow) := Nat.mul_le_mul_right _ hle
  have h2 : ((high * B + mid) * B + low + 1) ≤ g * (first * B + second) := by
    rw [Nat.mul_add, ← Nat.mul_assoc, ← hg, Nat.add_mul]; omega
  have h3 := Nat.mul_le_mul_right K h2
  rw [Nat.add_mul _ 1] at h3
  have h4 : g * (first * B + second) * K ≤ g * ((first * B + second) * K + vlow) := by
    rw [Nat.mul_assoc]; exact Nat.mul_le_mul_left _ (Nat.le_add_right _ _)
  omega

theorem guess_near {B first second high mid low K vlow plow g R : Nat}
    (hg : g * first + R = high * B + mid) (ht : g * second ≤ R * B + low) (hgB : g < B) (hv : vlow < K) (hf : 0 < first) :
    g * ((first * B + second) * K + vlow) ≤ ((high * B + mid) * B + low) * K + plow + ((first * B + second) * K + vlow) := by
  have h2 : g * (first * B + second) ≤ (high * B + mid) * B + low := by
    rw [Nat.mul_add, ← Nat.mul_assoc, ← hg, Nat.add_mul]; omega
  have h3 := Nat.mul_le_mul_right K h2
  have h4 : g * vlow ≤ B * K := Nat.mul_le_mul (by omega) (by omega)
  have h5 : B * K ≤ (first * B + second) * K := by
    apply Nat.mul_le_mul_right
    have : 1 * B ≤ first * B := Nat.mul_le_mul_right _ hf
    omega
  rw [Nat.mul_add, ← Nat.mul_assoc]
  omega

theorem guess_two {B first second high mid low K vlow plow g R : Nat}
    (hg : g * first + R = high * B + mid) (hgB : g < B) (hs : second < B) (hv : vlow < K) (hf : B ≤ 2 * first) :
    g * ((first * B + second) * K + vlow) ≤ ((high * B + mid) * B + low) * K + plow + 2 * ((first * B + second) * K + vlow) := by
  have h2 : g * (first * B + second) ≤ (high * B + mid) * B + g * second := by
    rw [Nat.mul_add, ← Nat.mul_assoc, ← hg, Nat.add_mul]; omega
  have h3 := Nat.mul_le_mul_right K h2
  have h4 : g * second * K + g * vlow ≤ g * (B * K) := by
    rw [Nat.mul_assoc, ← Nat.mul_add]
    apply Nat.mul_le_mul_left
    have : (second + 1) * K ≤ B * K := Nat.mul_le_mul_right _ hs
    rw [Nat.add_mul] at this
    omega
  have h5 : g * (B * K) ≤ 2 * ((first * B + second) * K) := by
    have h6 : g * (B * K) ≤ (2 * first) * (B * K) := Nat.mul_le_mul_right _ (by omega)
    have h7 : first * (B * K) ≤ (first * B + second) * K := by
      rw [← Nat.mul_assoc]; exact Nat.mul_le_mul_right _ (Nat.le_add_right _ _)
    rw [Nat.mul_assoc] at h6
    omega
  rw [Nat.mul_add, ← Nat.mul_assoc]
  rw [Nat.add_mul] at h3
  rw [Nat.add_mul _ low]
  omega

/-- A guess by the highest limbs is right or one too great. -/
theorem guess {B first second high mid low K vlow plow g0 R P v : Nat} (hit : Bool)
    (hvd : v = (first * B + second) * K + vlow) (hPd : P = ((high * B + mid) * B + low) * K + plow)
    (hg : g0 * first + R = high * B + mid) (hRf : R < first ∨ (g0 + 1 = B)) (hgB : g0 < B)
    (hhit : hit = decide (R * B + low < g0 * second)) (hPv : P < v * B) (hs : second < B) (hl : low < B) (hv : vlow < K) (hp : plow < K) (hf : B ≤ 2 * first) (hB : 0 < B) :
    P / v ≤ (if hit then g0 - 1 else g0) ∧ (if hit then g0 - 1 else g0) ≤ P / v + 1 ∧ (if hit then g0 - 1 else g0) < B := by
  have hK : 0 < K := by omega
  have hf0 : 0 < first := by omega
  have hvpos : 0 < v := by
    rw [hvd]
    have : 0 < first * B := Nat.mul_pos hf0 hB
    have : 0 < (first * B + second) * K := Nat.mul_pos (by omega) hK
    omega
  have hq : P / v * v ≤ P := Nat.div_mul_le_self _ _
  have hqB : P / v < B := by
    rw [Nat.div_lt_iff_lt_mul hvpos, Nat.mul_comm]; exact hPv
  have hq' := hq
  rw [hPd] at hq'
  conv at hq' => lhs; rw [hvd]
  have le0 : P / v ≤ g0 := by
    refine guess_le (vlow := vlow) (second := second) hg hRf ?_ hqB hl hp
    rw [← hvd, ← hPd]; exact hq
  by_cases ht : R * B + low < g0 * second
  · have e : hit = true := by rw [hhit]; simpa using ht
    rw [e]
    simp only [if_true]
    have h1 : P / v + 1 ≤ g0 := by
      refine guess_hit (vlow := vlow) (plow := plow) hg ht ?_ hp
      rw [← hvd, ← hPd]; exact hq
    have h2 := guess_two (low := low) (plow := plow) hg hgB hs hv hf
    rw [← hvd, ← hPd] at h2
    refine ⟨by omega, ?_, by omega⟩
    have h3 : (g0 - 2) * v ≤ P := by
      rw [Nat.sub_mul]; omega
    have := (Nat.le_div_iff_mul_le hvpos).2 h3
    omega
  · have e : hit = false := by rw [hhit]; simpa using ht
    rw [e]
    simp only [Bool.false_eq_true, if_false]
    have h2 := guess_near (plow := plow) hg (by omega : g0 * second ≤ R * B + low) hgB hv hf0
    rw [← hvd, ← hPd] at h2
    refine ⟨le0, ?_, hgB⟩
    have h3 : (g0 - 1) * v ≤ P := by
      rw [Nat.sub_mul]; omega
    have := (Nat.le_div_iff_mul_le hvpos).2 h3
    omega

end KD

/-- The number of the first n limbs. -/
def val (g : Nat → Nat) : Nat → Nat
  | 0 => 0
  | n + 1 => val g n + g n * 18446744073709551616 ^ n

theorem val_congr {f g : Nat → Nat} (n : Nat) (h : ∀ j, j < n → f j = g j) : val f n = val g n := by
  induction n with
  | zero => rfl
  | succ n ih => unfold val; rw [ih (fun j hj => h j (by omega)), h n (by omega)]

end Go.Proofs.Ytpnijncoldihfaa
