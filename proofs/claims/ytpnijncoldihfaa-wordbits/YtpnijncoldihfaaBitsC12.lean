/-
  Digits and bits of numbers.
-/
import Derived.Test.YtpnijncoldihfaaBitsC11
namespace Go.Proofs.Ytpnijncoldihfaa
open Go.RowKit Go.Shelf

theorem wpAnyH_takeL {P : Program} {l : List Oper} {Q : Exit → Act → World → Prop} {md : Region.Mode} {S : World → Prop} {i : Nat} {oi : Oper} {v : Value} {fuel : Nat} {listed : Array Bool} {a : Act} {w : World} (hi : l[i]? = some oi)
    (hs : Region.noSelect l.toArray = true) (hf : Region.free md l.toArray listed i = true) (hr : (Region.ready md l.toArray listed).contains i = true)
    (hQ : ∀ c a w, Q (.panic c) (a.put oi.dst v) w → Q (.panic c) a w) (hy : YieldsIf P l.toArray S oi v a) (hS : S w)
    (h : wpAnyH P md l.toArray Q S fuel (listed.setIfInBounds i true) (a.put oi.dst v) w) : wpAnyH P md l.toArray Q S (fuel + 1) listed a w :=
  wpAnyH_take (by simpa using hi) hs hf hr hQ hy hS h

theorem put_list (l : List Value) (ds : List Deferred) (d : Nat) (v : Value) : Act.put { tmps := l.toArray, defers := ds } (some d) v = { tmps := (l.set d v).toArray, defers := ds } := by
  simp [Act.put]

end Go.Proofs.Ytpnijncoldihfaa

namespace Go.Proofs.Ytpnijncoldihfaa
open Go.RowKit Go.Shelf

/-- A digit to the base 2^32. -/
def dg (N j : Nat) : Nat := N / 4294967296 ^ j % 4294967296

theorem dg_lt (N j : Nat) : dg N j < 4294967296 := Nat.mod_lt _ (by decide)

/-- The number of the first n digits. -/
def vl (g : Nat → Nat) : Nat → Nat
  | 0 => 0
  | n + 1 => vl g n + g n * 4294967296 ^ n

theorem vl_lt {g : Nat → Nat} (n : Nat) (h : ∀ j, j < n → g j < 4294967296) : vl g n < 4294967296 ^ n := by
  induction n with
  | zero => simp [vl]
  | succ n ih =>
    have h1 := ih (fun j hj => h j (by omega))
    have h2 : (g n + 1) * 4294967296 ^ n ≤ 4294967296 * 4294967296 ^ n := Nat.mul_le_mul_right _ (h n (by omega))
    rw [Nat.pow_succ, Nat.mul_comm _ 4294967296]
    rw [Nat.add_mul, Nat.one_mul] at h2
    unfold vl
    omega

theorem vl_congr {f g : Nat → Nat} (n : Nat) (h : ∀ j, j < n → f j = g j) : vl f n = vl g n := by
  induction n with
  | zero => rfl
  | succ n ih => unfold vl; rw [ih (fun j hj => h j (by omega)), h n (by omega)]

theorem vl_add (g : Nat → Nat) (a n : Nat) : vl g (a + n) = vl g a + vl (fun j => g (a + j)) n * 4294967296 ^ a := by
  induction n with
  | zero => simp [vl]
  | succ n ih =>
    rw [← Nat.add_assoc]
    show vl g (a + n) + g (a + n) * 4294967296 ^ (a + n) = vl g a + (vl (fun j => g (a + j)) n + g (a + n) * 4294967296 ^ n) * 4294967296 ^ a
    rw [ih, Nat.add_mul, Nat.pow_add, Nat.mul_assoc (g (a + n)), Nat.mul_comm (4294967296 ^ a) (4294967296 ^ n)]
    omega

theorem vl_dg (N n : Nat) : vl (dg N) n = N % 4294967296 ^ n := by
  induction n with
  | zero => simp [vl, Nat.mod_one]
  | succ n ih =>
    unfold vl
    rw [ih]
    unfold dg
    rw [Nat.pow_succ, Nat.mod_mul, Nat.mul_comm (4294967296 ^ n)]

theorem dg_vl {g : Nat → Nat} (n : Nat) (h : ∀ j, j < n → g j < 4294967296) {i : Nat} (hi : i < n) : dg (vl g n) i = g i := by
  obtain ⟨d, rfl⟩ : ∃ d, n = i + 1 + d := ⟨n - (i + 1), by omega⟩
  rw [vl_add]
  unfold dg
  have h1 := vl_lt i (fun j hj => h j (by omega))
  have e : vl g (i + 1) + vl (fun j => g (i + 1 + j)) d * 4294967296 ^ (i + 1) = vl g i + 4294967296 ^ i * (g i + 4294967296 * vl (fun j => g (i + 1 + j)) d) := by
    show vl g i + g i * 4294967296 ^ i + _ = _
    rw [Nat.pow_succ, Nat.mul_add, Nat.mul_comm (g i), ← Nat.mul_assoc (4294967296 ^ i), Nat.mul_comm (vl (fun j => g (i + 1 + j)) d)]
    omega
  rw [e, Nat.add_mul_div_left _ _ (Nat.pow_pos (by decide)), Nat.div_eq_of_lt h1, Nat.zero_add, Nat.add_mul_mod_self_left, Nat.mod_eq_of_lt (h i (by omega))]

theorem dg_even (N i : Nat) : dg N (2 * i) = limb N i % 4294967296 := by
  unfold dg limb
  rw [Nat.pow_mul, show (4294967296 : Nat) ^ 2 = 18446744073709551616 by decide, Nat.mod_mod_of_dvd _ (by decide)]

theorem dg_odd (N i : Nat) : dg N (2 * i + 1) = limb N i / 4294967296 := by
  unfold dg limb
  rw [Nat.pow_succ, Nat.pow_mul, show (4294967296 : Nat) ^ 2 = 18446744073709551616 by decide, ← Nat.div_div_eq_div_mul]
  generalize N / 18446744073709551616 ^ i = m
  omega

theorem dg_high {N j n : Nat} (h : N < 4294967296 ^ n) (hj : n ≤ j) : dg N j = 0 := by
  unfold dg
  rw [Nat.div_eq_of_lt (Nat.lt_of_lt_of_le h (Nat.pow_le_pow_right (by decide) hj))]

/-- The cells of seventeen digits. -/
def c17 (g : Nat → Nat) : Array Value := #[.int .u64 (g 0), .int .u64 (g 1), .int .u64 (g 2), .int .u64 (g 3), .int .u64 (g 4), .int .u64 (g 5), .int .u64 (g 6), .int .u64 (g 7), .int .u64 (g 8), .int .u64 (g 9), .int .u64 (g 10), .int .u64 (g 11), .int .u64 (g 12), .int .u64 (g 13), .int .u64 (g 14), .int .u64 (g 15), .int .u64 (g 16)]

theorem get17 (g : Nat → Nat) {j : Nat} (h : j < 17) : (c17 g)[j]? = some (.int .u64 (g j)) := by
  match j, h with
  | 0, _ => rfl
  | 1, _ => rfl
  | 2, _ => rfl
  | 3, _ => rfl
  | 4, _ => rfl
  | 5, _ => rfl
  | 6, _ => rfl
  | 7, _ => rfl
  | 8, _ => rfl
  | 9, _ => rfl
  | 10, _ => rfl
  | 11, _ => rfl
  | 12, _ => rfl
  | 13, _ => rfl
  | 14, _ => rfl
  | 15, _ => rfl
  | 16, _ => rfl
  | k + 17, h => exact absurd h (by omega)

theorem set17 (g : Nat → Nat) {j : Nat} (v : Nat) (h : j < 17) : (c17 g).setIfInBounds j (.int .u64 v) = c17 (fun i => if i = j then v else g i) := by
  match j, h with
  | 0, _ => rfl
  | 1, _ => rfl
  | 2, _ => rfl
  | 3, _ => rfl
  | 4, _ => rfl
  | 5, _ => rfl
  | 6, _ => rfl
  | 7, _ => rfl
  | 8, _ => rfl
  | 9, _ => rfl
  | 10, _ => rfl
  | 11, _ => rfl
  | 12, _ => rfl
  | 13, _ => rfl
  | 14, _ => rfl
  | 15, _ => rfl
  | 16, _ => rfl
  | k + 17, h => exact absurd h (by omega)

/-- The value of a number of seventeen digits. -/
def lv (N : Nat) : Value := .agg (c17 (dg N))

/-- The carry into a digit of a sum. -/
def cr (A B k : Nat) : Nat := (A % 4294967296 ^ k + B % 4294967296 ^ k) / 4294967296 ^ k

end Go.Proofs.Ytpnijncoldihfaa

namespace Go.Proofs.Ytpnijncoldihfaa
open Go.RowKit Go.Shelf

/-- A bit of a number. -/
def bt (X i : Nat) : Nat := X / 2 ^ i % 2

theorem bt_le (X i : Nat) : bt X i ≤ 1 := by unfold bt; omega

theorem bt_test (X i : Nat) : bt X i = (X.testBit i).toNat := (Nat.toNat_testBit X i).symm

theorem pow64 (i : Nat) : 2 ^ i = 18446744073709551616 ^ (i / 64) * 2 ^ (i % 64) := by
  rw [show (18446744073709551616 : Nat) = 2 ^ 64 by decide, ← Nat.pow_mul, ← Nat.pow_add, Nat.div_add_mod]

theorem limb_bit (A i : Nat) : limb A (i / 64) / 2 ^ (i % 64) % 2 = bt A i := by
  unfold limb bt
  have h := Nat.mod_lt i (show 0 < 64 by decide)
  rw [pow64 i, ← Nat.div_div_eq_div_mul]
  generalize A / 18446744073709551616 ^ (i / 64) = x
  rw [← Nat.toNat_testBit, ← Nat.toNat_testBit, show (18446744073709551616 : Nat) = 2 ^ 64 by decide, Nat.testBit_mod_two_pow]
  simp [h]

theorem mod_bit (N i : Nat) : N % 2 ^ (i + 1) = N % 2 ^ i + bt N i * 2 ^ i := by
  unfold bt
  rw [Nat.mod_pow_succ, Nat.mul_comm]

theorem bt_mod (X i n : Nat) (h : i < n) : bt (X % 2 ^ n) i = bt X i := by
  rw [bt_test, bt_test, Nat.testBit_mod_two_pow]; simp [h]

theorem bt_mod_high (X i n : Nat) (h : n ≤ i) : bt (X % 2 ^ n) i = 0 := by
  rw [bt_test, Nat.testBit_mod_two_pow]
  have : ¬ i < n := by omega
  simp [this]

theorem limb_add_bit (O b i j : Nat) (hO : O < 2 ^ i) (hb : b ≤ 1) : limb (O + b * 2 ^ i) j = if j = i / 64 then limb O j + b * 2 ^ (i % 64) else limb O j := by
  have hs := Nat.mod_lt i (show 0 < 64 by decide)
  have hL : (0 : Nat) < 18446744073709551616 ^ j := Nat.pow_pos (by decide)
  rcases Nat.lt_trichotomy j (i / 64) with h | h | h
  · rw [if_neg (by omega)]
    obtain ⟨t, ht⟩ : ∃ t, i / 64 = j + (t + 1) := ⟨i / 64 - j - 1, by omega⟩
    unfold limb
    rw [pow64 i, ht, Nat.pow_add, Nat.pow_succ,
      show b * (18446744073709551616 ^ j * (18446744073709551616 ^ t * 18446744073709551616) * 2 ^ (i % 64)) = 18446744073709551616 ^ j * (18446744073709551616 * (b * 18446744073709551616 ^ t * 2 ^ (i % 64))) by
        rw [Nat.mul_left_comm, Nat.mul_comm (18446744073709551616 ^ t) 18446744073709551616]
        simp only [Nat.mul_assoc, Nat.mul_comm b], Nat.add_mul_div_left _ _ hL, Nat.add_mul_mod_self_left]
  · rw [if_pos h]
    unfold limb
    have h1 : O / 18446744073709551616 ^ j < 2 ^ (i % 64) := by
      rw [Nat.div_lt_iff_lt_mul hL, Nat.mul_comm, h, ← pow64]; exact hO
    have h2 : 2 ^ (i % 64) * 2 ≤ 18446744073709551616 := by
      rw [← Nat.pow_succ, show (18446744073709551616 : Nat) = 2 ^ 64 by decide]; exact Nat.pow_le_pow_right (by decide) (by omega)
    have h3 : b * 2 ^ (i % 64) ≤ 2 ^ (i % 64) := by
      rcases (show b = 0 ∨ b = 1 by omega) with e | e <;> rw [e] <;> omega
    have h4 : b * 2 ^ i = 18446744073709551616 ^ j * (b * 2 ^ (i % 64)) := by rw [pow64 i, ← h, Nat.mul_left_comm]
    rw [h4, Nat.add_mul_div_left _ _ hL]
    generalize b * 2 ^ (i % 64) = c at *
    rw [Nat.mod_eq_of_lt (by omega), Nat.mod_eq_of_lt (by omega)]
  · rw [if_neg (by omega)]
    unfold limb
    have h1 : 2 ^ (i + 1) ≤ 18446744073709551616 ^ j := by
      rw [show (18446744073709551616 : Nat) = 2 ^ 64 by decide, ← Nat.pow_mul]; exact Nat.pow_le_pow_right (by decide) (by omega)
    have h3 : b * 2 ^ i ≤ 2 ^ i := by
      rcases (show b = 0 ∨ b = 1 by omega) with e | e <;> rw [e] <;> omega
    rw [Nat.pow_succ] at h1
    rw [Nat.div_eq_of_lt (by omega), Nat.div_eq_of_lt (by omega)]

theorem bt_and (X Y i : Nat) : bt (X &&& Y) i = bt X i * bt Y i := by
  simp only [bt_test, Nat.testBit_and]
  cases X.testBit i <;> cases Y.testBit i <;> rfl

theorem bt_or (X Y i : Nat) : bt (X ||| Y) i = bt X i + bt Y i - bt X i * bt Y i := by
  simp only [bt_test, Nat.testBit_or]
  cases X.testBit i <;> cases Y.testBit i <;> rfl

theorem bt_xor (X Y i : Nat) : bt (X ^^^ Y) i = (bt X i + bt Y i) % 2 := by
  simp only [bt_test, Nat.testBit_xor]
  cases X.testBit i <;> cases Y.testBit i <;> rfl

theorem bt_shl (X n i : Nat) : bt (X * 2 ^ n) i = if i < n then 0 else bt X (i - n) := by
  rw [bt_test, Nat.testBit_mul_two_pow]
  by_cases h : i < n
  · rw [if_pos h]; have : ¬ i ≥ n := by omega
    simp [this]
  · rw [if_neg h]; have : i ≥ n := by omega
    simp [this, bt_test]

theorem bt_shr (X n i : Nat) : bt (X / 2 ^ n) i = bt X (i + n) := by
  unfold bt
  rw [Nat.div_div_eq_div_mul, ← Nat.pow_add, Nat.add_comm n i]

theorem bt_not (X i n : Nat) (h : X < 2 ^ n) (hi : i < n) : bt (2 ^ n - 1 - X) i = 1 - bt X i := by
  have e : 2 ^ n - 1 - X = 2 ^ n - (X + 1) := by omega
  rw [bt_test, bt_test, e, Nat.testBit_two_pow_sub_succ h]
  simp [hi]
  cases X.testBit i <;> rfl

end Go.Proofs.Ytpnijncoldihfaa
