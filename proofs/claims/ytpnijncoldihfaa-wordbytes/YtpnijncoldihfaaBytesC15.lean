/-
  Digits and bits of numbers.
-/
import Derived.Test.YtpnijncoldihfaaBytesC14
namespace Go.Proofs.Ytpnijncoldihfaa
open Go.RowKit Go.Shelf

theorem wpAnyH_takeL {P : Program} {l : List Oper} {Q : Exit → Act → World → Prop} {md : Region.Mode} {S : World → Prop} {i : Nat} {oi : Oper} {v : Value} {fuel : Nat} {listed : Array Bool} {a : Act} {w : World} (hi : l[i]? = some oi)
    (hs : Region.noSelect l.toArray = true) (hf : Region.free md l.toArray listed i = true) (hr : (Region.ready md l.toArray listed).contains i = true)
    (hQ : ∀ c a w, Q (.panic c) (a.put oi.dst v) w → Q (.panic c) a w) (hy : YieldsIf P l.toArray S oi v a) (hS : S w)
    (h : wpAnyH P md l.toArray Q S fuel (listed.setIfInBounds i true) (a.put oi.dst v) w) : wpAnyH P md l.toArray Q S (fuel + 1) listed a w :=
  wpAnyH_take (by simpa using hi) hs hf hr hQ hy hS h

theorem put_list (l : List Value) (ds : List Deferred) (d : Nat) (v : Value) : Act.put { tmps := l.toArray, defers := ds } (some d) v = { tmps := (l.set d v).toArray, defers := ds } := by
  simp [Act.put]

end Go.Proofs.Ytpnijncoldihfaa

namespace Go.Proofs.Ytpnijncoldihfaa
open Go.RowKit Go.Shelf

/-- A digit to the base 2^32. -/
def dg (N j : Nat) : Nat := N / 4294967296 ^ j % 4294967296

/-- The number of the first n digits. -/
def vl (g : Nat → Nat) : Nat → Nat
  | 0 => 0
  | n + 1 => vl g n + g n * 4294967296 ^ n

theorem vl_lt {g : Nat → Nat} (n : Nat) (h : ∀ j, j < n → g j < 4294967296) : vl g n < 4294967296 ^ n := by
  induction n with
  | zero => simp [vl]
  | succ n ih =>
    have h1 := ih (fun j hj => h j (by omega))
    have h2 : (g n + 1) * 4294967296 ^ n ≤ 4294967296 * 4294967296 ^ n := Nat.mul_le_mul_right _ (h n (by omega))
    rw [Nat.pow_succ, Nat.mul_comm _ 4294967296]
    rw [Nat.add_mul, Nat.one_mul] at h2
    unfold vl
    omega

theorem vl_congr {f g : Nat → Nat} (n : Nat) (h : ∀ j, j < n → f j = g j) : vl f n = vl g n := by
  induction n with
  | zero => rfl
  | succ n ih => unfold vl; rw [ih (fun j hj => h j (by omega)), h n (by omega)]

theorem vl_add (g : Nat → Nat) (a n : Nat) : vl g (a + n) = vl g a + vl (fun j => g (a + j)) n * 4294967296 ^ a := by
  induction n with
  | zero => simp [vl]
  | succ n ih =>
    rw [← Nat.add_assoc]
    show vl g (a + n) + g (a + n) * 4294967296 ^ (a + n) = vl g a + (vl (fun j => g (a + j)) n + g (a + n) * 4294967296 ^ n) * 4294967296 ^ a
    rw [ih, Nat.add_mul, Nat.pow_add, Nat.mul_assoc (g (a + n)), Nat.mul_comm (4294967296 ^ a) (4294967296 ^ n)]
    omega

theorem vl_dg (N n : Nat) : vl (dg N) n = N % 4294967296 ^ n := by
  induction n with
  | zero => simp [vl, Nat.mod_one]
  | succ n ih =>
    unfold vl
    rw [ih]
    unfold dg
    rw [Nat.pow_succ, Nat.mod_mul, Nat.mul_comm (4294967296 ^ n)]

theorem dg_vl {g : Nat → Nat} (n : Nat) (h : ∀ j, j < n → g j < 4294967296) {i : Nat} (hi : i < n) : dg (vl g n) i = g i := by
  obtain ⟨d, rfl⟩ : ∃ d, n = i + 1 + d := ⟨n - (i + 1), by omega⟩
  rw [vl_add]
  unfold dg
  have h1 := vl_lt i (fun j hj => h j (by omega))
  have e : vl g (i + 1) + vl (fun j => g (i + 1 + j)) d * 4294967296 ^ (i + 1) = vl g i + 4294967296 ^ i * (g i + 4294967296 * vl (fun j => g (i + 1 + j)) d) := by
    show vl g i + g i * 4294967296 ^ i + _ = _
    rw [Nat.pow_succ, Nat.mul_add, Nat.mul_comm (g i), ← Nat.mul_assoc (4294967296 ^ i), Nat.mul_comm (vl (fun j => g (i + 1 + j)) d)]
    omega
  rw [e, Nat.add_mul_div_left _ _ (Nat.pow_pos (by decide)), Nat.div_eq_of_lt h1, Nat.zero_add, Nat.add_mul_mod_self_left, Nat.mod_eq_of_lt (h i (by omega))]

/-- The cells of seventeen digits. -/
def c17 (g : Nat → Nat) : Array Value := #[.int .u64 (g 0), .int .u64 (g 1), .int .u64 (g 2), .int .u64 (g 3), .int .u64 (g 4), .int .u64 (g 5), .int .u64 (g 6), .int .u64 (g 7), .int .u64 (g 8), .int .u64 (g 9), .int .u64 (g 10), .int .u64 (g 11), .int .u64 (g 12), .int .u64 (g 13), .int .u64 (g 14), .int .u64 (g 15), .int .u64 (g 16)]

theorem set17 (g : Nat → Nat) {j : Nat} (v : Nat) (h : j < 17) : (c17 g).setIfInBounds j (.int .u64 v) = c17 (fun i => if i = j then v else g i) := by
  match j, h with
  | 0, _ => rfl
  | 1, _ => rfl
  | 2, _ => rfl
  | 3, _ => rfl
  | 4, _ => rfl
  | 5, _ => rfl
  | 6, _ => rfl
  | 7, _ => rfl
  | 8, _ => rfl
  | 9, _ => rfl
  | 10, _ => rfl
  | 11, _ => rfl
  | 12, _ => rfl
  | 13, _ => rfl
  | 14, _ => rfl
  | 15, _ => rfl
  | 16, _ => rfl
  | k + 17, h => exact absurd h (by omega)

/-- The carry into a digit of a sum. -/
def cr (A B k : Nat) : Nat := (A % 4294967296 ^ k + B % 4294967296 ^ k) / 4294967296 ^ k

end Go.Proofs.Ytpnijncoldihfaa

namespace Go.Proofs.Ytpnijncoldihfaa
open Go.RowKit Go.Shelf

/-- A bit of a number. -/
def bt (X i : Nat) : Nat := X / 2 ^ i % 2

end Go.Proofs.Ytpnijncoldihfaa
