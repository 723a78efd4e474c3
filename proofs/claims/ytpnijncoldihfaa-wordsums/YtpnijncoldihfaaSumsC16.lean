/-
  Numbers of seventeen digits to the base 2^32.
-/
import Derived.Test.YtpnijncoldihfaaSumsC15
namespace Go.Proofs.Ytpnijncoldihfaa
open Go.RowKit Go.Shelf

/-- A digit to the base 2^32. -/
def dg (N j : Nat) : Nat := N / 4294967296 ^ j % 4294967296

theorem dg_lt (N j : Nat) : dg N j < 4294967296 := Nat.mod_lt _ (by decide)

/-- The number of the first n digits. -/
def vl (g : Nat → Nat) : Nat → Nat
  | 0 => 0
  | n + 1 => vl g n + g n * 4294967296 ^ n

theorem vl_lt {g : Nat → Nat} (n : Nat) (h : ∀ j, j < n → g j < 4294967296) : vl g n < 4294967296 ^ n := by
  induction n with
  | zero => simp [vl]
  | succ n ih =>
    have h1 := ih (fun j hj => h j (by omega))
    have h2 : (g n + 1) * 4294967296 ^ n ≤ 4294967296 * 4294967296 ^ n := Nat.mul_le_mul_right _ (h n (by omega))
    rw [Nat.pow_succ, Nat.mul_comm _ 4294967296]
    rw [Nat.add_mul, Nat.one_mul] at h2
    unfold vl
    omega

theorem vl_congr {f g : Nat → Nat} (n : Nat) (h : ∀ j, j < n → f j = g j) : vl f n = vl g n := by
  induction n with
  | zero => rfl
  | succ n ih => unfold vl; rw [ih (fun j hj => h j (by omega)), h n (by omega)]

theorem vl_add (g : Nat → Nat) (a n : Nat) : vl g (a + n) = vl g a + vl (fun j => g (a + j)) n * 4294967296 ^ a := by
  induction n with
  | zero => simp [vl]
  | succ n ih =>
    rw [← Nat.add_assoc]
    show vl g (a + n) + g (a + n) * 4294967296 ^ (a + n) = vl g a + (vl (fun j => g (a + j)) n + g (a + n) * 4294967296 ^ n) * 4294967296 ^ a
    rw [ih, Nat.add_mul, Nat.pow_add, Nat.mul_assoc (g (a + n)), Nat.mul_comm (4294967296 ^ a) (4294967296 ^ n)]
    omega

theorem vl_dg (N n : Nat) : vl (dg N) n = N % 4294967296 ^ n := by
  induction n with
  | zero => simp [vl, Nat.mod_one]
  | succ n ih =>
    unfold vl
    rw [ih]
    unfold dg
    rw [Nat.pow_succ, Nat.mod_mul, Nat.mul_comm (4294967296 ^ n)]

theorem dg_vl {g : Nat → Nat} (n : Nat) (h : ∀ j, j < n → g j < 4294967296) {i : Nat} (hi : i < n) : dg (vl g n) i = g i := by
  obtain ⟨d, rfl⟩ : ∃ d, n = i + 1 + d := ⟨n - (i + 1), by omega⟩
  rw [vl_add]
  unfold dg
  have h1 := vl_lt i (fun j hj => h j (by omega))
  have e : vl g (i + 1) + vl (fun j => g (i + 1 + j)) d * 4294967296 ^ (i + 1) = vl g i + 4294967296 ^ i * (g i + 4294967296 * vl (fun j => g (i + 1 + j)) d) := by
    show vl g i + g i * 4294967296 ^ i + _ = _
    rw [Nat.pow_succ, Nat.mul_add, Nat.mul_comm (g i), ← Nat.mul_assoc (4294967296 ^ i), Nat.mul_comm (vl (fun j => g (i + 1 + j)) d)]
    omega
  rw [e, Nat.add_mul_div_left _ _ (Nat.pow_pos (by decide)), Nat.div_eq_of_lt h1, Nat.zero_add, Nat.add_mul_mod_self_left, Nat.mod_eq_of_lt (h i (by omega))]

theorem dg_even (N i : Nat) : dg N (2 * i) = limb N i % 4294967296 := by
  unfold dg limb
  rw [Nat.pow_mul, show (4294967296 : Nat) ^ 2 = 18446744073709551616 by decide, Nat.mod_mod_of_dvd _ (by decide)]

theorem dg_odd (N i : Nat) : dg N (2 * i + 1) = limb N i / 4294967296 := by
  unfold dg limb
  rw [Nat.pow_succ, Nat.pow_mul, show (4294967296 : Nat) ^ 2 = 18446744073709551616 by decide, ← Nat.div_div_eq_div_mul]
  generalize N / 18446744073709551616 ^ i = m
  omega

theorem dg_high {N j n : Nat} (h : N < 4294967296 ^ n) (hj : n ≤ j) : dg N j = 0 := by
  unfold dg
  rw [Nat.div_eq_of_lt (Nat.lt_of_lt_of_le h (Nat.pow_le_pow_right (by decide) hj))]

/-- The cells of seventeen digits. -/
def c17 (g : Nat → Nat) : Array Value := #[.int .u64 (g 0), .int .u64 (g 1), .int .u64 (g 2), .int .u64 (g 3), .int .u64 (g 4), .int .u64 (g 5), .int .u64 (g 6), .int .u64 (g 7), .int .u64 (g 8), .int .u64 (g 9), .int .u64 (g 10), .int .u64 (g 11), .int .u64 (g 12), .int .u64 (g 13), .int .u64 (g 14), .int .u64 (g 15), .int .u64 (g 16)]

theorem get17 (g : Nat → Nat) {j : Nat} (h : j < 17) : (c17 g)[j]? = some (.int .u64 (g j)) := by
  match j, h with
  | 0, _ => rfl
  | 1, _ => rfl
  | 2, _ => rfl
  | 3, _ => rfl
  | 4, _ => rfl
  | 5, _ => rfl
  | 6, _ => rfl
  | 7, _ => rfl
  | 8, _ => rfl
  | 9, _ => rfl
  | 10, _ => rfl
  | 11, _ => rfl
  | 12, _ => rfl
  | 13, _ => rfl
  | 14, _ => rfl
  | 15, _ => rfl
  | 16, _ => rfl
  | k + 17, h => exact absurd h (by omega)

theorem set17 (g : Nat → Nat) {j : Nat} (v : Nat) (h : j < 17) : (c17 g).setIfInBounds j (.int .u64 v) = c17 (fun i => if i = j then v else g i) := by
  match j, h with
  | 0, _ => rfl
  | 1, _ => rfl
  | 2, _ => rfl
  | 3, _ => rfl
  | 4, _ => rfl
  | 5, _ => rfl
  | 6, _ => rfl
  | 7, _ => rfl
  | 8, _ => rfl
  | 9, _ => rfl
  | 10, _ => rfl
  | 11, _ => rfl
  | 12, _ => rfl
  | 13, _ => rfl
  | 14, _ => rfl
  | 15, _ => rfl
  | 16, _ => rfl
  | k + 17, h => exact absurd h (by omega)

theorem c17_congr {f g : Nat → Nat} (h : ∀ j, j < 17 → f j = g j) : c17 f = c17 g := by
  unfold c17
  rw [h 0 (by omega), h 1 (by omega), h 2 (by omega), h 3 (by omega), h 4 (by omega), h 5 (by omega), h 6 (by omega), h 7 (by omega), h 8 (by omega), h 9 (by omega), h 10 (by omega), h 11 (by omega), h 12 (by omega), h 13 (by omega), h 14 (by omega), h 15 (by omega), h 16 (by omega)]

/-- The value of a number of seventeen digits. -/
def lv (N : Nat) : Value := .agg (c17 (dg N))

/-- The carry into a digit of a sum. -/
def cr (A B k : Nat) : Nat := (A % 4294967296 ^ k + B % 4294967296 ^ k) / 4294967296 ^ k

theorem cr_le (A B k : Nat) : cr A B k ≤ 1 := by
  unfold cr
  have hP : 0 < 4294967296 ^ k := Nat.pow_pos (by decide)
  have h1 := Nat.mod_lt A hP
  have h2 := Nat.mod_lt B hP
  apply Nat.le_of_lt_succ
  rw [Nat.div_lt_iff_lt_mul hP]
  omega

theorem cr_step (A B k : Nat) : (dg A k + dg B k + cr A B k) % 4294967296 = dg (A + B) k ∧ (dg A k + dg B k + cr A B k) / 4294967296 = cr A B (k + 1) := by
  have hP : 0 < 4294967296 ^ k := Nat.pow_pos (by decide)
  unfold dg cr
  rw [Nat.pow_succ]
  generalize 4294967296 ^ k = P at *
  have hA := Nat.mod_mul (x := A) (a := P) (b := 4294967296)
  have hB := Nat.mod_mul (x := B) (a := P) (b := 4294967296)
  have hd := Nat.mod_add_div (A % P + B % P) P
  have hs : (A % P + B % P) % P = (A + B) % P := (Nat.add_mod A B P).symm
  rw [hs] at hd
  have hl := Nat.mod_lt (A + B) hP
  have e : A % (P * 4294967296) + B % (P * 4294967296) = (A + B) % P + P * (A / P % 4294967296 + B / P % 4294967296 + (A % P + B % P) / P) := by
    rw [hA, hB, Nat.mul_add, Nat.mul_add]
    omega
  generalize A / P % 4294967296 + B / P % 4294967296 + (A % P + B % P) / P = t at *
  refine ⟨?_, ?_⟩
  · have h3 : (A + B) % (P * 4294967296) = ((A + B) % P + P * t) % (P * 4294967296) := by rw [Nat.add_mod, e]
    have h4 : (A + B) / P % 4294967296 = (A + B) % (P * 4294967296) / P := (Nat.mod_mul_right_div_self _ _ _).symm
    rw [h4, h3, Nat.mod_mul_right_div_self, Nat.add_mul_div_left _ _ hP, Nat.div_eq_of_lt hl, Nat.zero_add]
  · rw [e, ← Nat.div_div_eq_div_mul, Nat.add_mul_div_left _ _ hP, Nat.div_eq_of_lt hl, Nat.zero_add]

end Go.Proofs.Ytpnijncoldihfaa
