/-
  The arithmetic of Montgomery's product: a round of it, its bounds; the elements of a ring; inverses modulo 2^64.
-/
import Derived.Test.YtiekipkmfopdoaaBase
namespace Go.Proofs.Ytiekipkmfopdoaa
open Go.RowKit Go.Shelf

namespace MN
theorem round {B Bi S S' A V q M t b : Nat} (h : S * Bi = A * V + q * M) (e : S' * B = S + A * b + t * M) :
    S' * (Bi * B) = A * (V + b * Bi) + (q + t * Bi) * M := by
  grind
theorem bound {Bi S A V q M : Nat} (h : S * Bi = A * V + q * M) (hV : V < Bi) (hq : q < Bi) (hM : 0 < M) : S < A + M := by
  apply Nat.lt_of_mul_lt_mul_right (a := Bi)
  rw [h, Nat.add_mul]
  have h1 : A * V ≤ A * Bi := Nat.mul_le_mul_left _ (by omega)
  have h2 : q * M < M * Bi := by rw [Nat.mul_comm M]; exact Nat.mul_lt_mul_of_pos_right hq hM
  omega
theorem q_lt {B Bi q t : Nat} (hq : q < Bi) (ht : t < B) : q + t * Bi < Bi * B := by
  have h : (t + 1) * Bi ≤ B * Bi := Nat.mul_le_mul_right _ ht
  rw [Nat.add_mul, Nat.mul_comm B] at h
  omega
theorem mulstep {B Bk V C S A a b s h l : Nat} (hV : V + C * Bk = S + A * b) (e : a * b + s + C = l + B * h) :
    (V + l * Bk) + h * (Bk * B) = (S + s * Bk) + (A + a * Bk) * b := by
  grind
theorem fin {B Bl W V X S s top over above c1 c2 c A b t M : Nat} (h1 : V + c1 * (Bl * B) = X + A * b) (h2 : above + c1 = top + B * over)
    (h3 : B * W + c2 * (Bl * B) = V + t * M) (h4 : top + c2 = s + B * c) (hS : S = X + above * (Bl * B)) :
    (W + s * Bl + (over + c) * (Bl * B)) * B = S + A * b + t * M := by
  grind
/-- The last sum is below twice the modulus, if one of both factors is below it. -/
theorem last {R S A V q M : Nat} (h : S * R = A * V + q * M) (hAV : A * V < R * M) (hq : q < R) (hM : 0 < M) : S < 2 * M := by
  apply Nat.lt_of_mul_lt_mul_right (a := R)
  have h2 : q * M < R * M := Nat.mul_lt_mul_of_pos_right hq hM
  rw [h, Nat.mul_assoc, Nat.mul_comm M R]
  omega
theorem half_le {m P Q : Nat} (ho : m % 2 = 1) (hle : P ≤ Q) (h : P * 2 % m = Q * 2 % m) : P % m = Q % m := by
  have hc : Nat.Coprime m 2 := by
    unfold Nat.Coprime
    rw [Nat.gcd_comm, Nat.gcd_rec, ho]
    rfl
  have hd : m ∣ Q * 2 - P * 2 := Nat.dvd_of_mod_eq_zero (Nat.sub_mod_eq_zero_of_mod_eq h.symm)
  rw [← Nat.sub_mul] at hd
  obtain ⟨k, hk⟩ := hc.dvd_of_dvd_mul_right hd
  have : Q = P + m * k := by omega
  rw [this, Nat.add_mul_mod_self_left]
theorem half {m P Q : Nat} (ho : m % 2 = 1) (h : P * 2 % m = Q * 2 % m) : P % m = Q % m := by
  rcases Nat.le_total P Q with hle | hle
  · exact half_le ho hle h
  · exact (half_le ho hle h.symm).symm
theorem halves {m P Q : Nat} (ho : m % 2 = 1) : ∀ k, P * 2 ^ k % m = Q * 2 ^ k % m → P % m = Q % m := by
  intro k
  induction k with
  | zero => intro h; simpa using h
  | succ k ih =>
    intro h
    apply ih
    apply half ho
    rw [Nat.mul_assoc, Nat.mul_assoc, ← Nat.pow_succ]
    exact h
theorem uniq {m P Q : Nat} (ho : m % 2 = 1) (k : Nat) (hP : P < m) (hQ : Q < m) (h : P * 2 ^ k % m = Q * 2 ^ k % m) : P = Q := by
  have := halves ho k h
  rwa [Nat.mod_eq_of_lt hP, Nat.mod_eq_of_lt hQ] at this
theorem inv_step (n x d K : Int) (h : (1 - n * x) % K = d % K) : (1 - n * (x * (2 - n * x))) % K = (d * d) % K := by
  have e : 1 - n * (x * (2 - n * x)) = (1 - n * x) * (1 - n * x) := by grind
  rw [e, Int.mul_emod, h, ← Int.mul_emod]
end MN
end Go.Proofs.Ytiekipkmfopdoaa
