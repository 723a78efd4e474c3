/-
  The arithmetic of long division: a guess by the highest limbs is right or one too great; numbers by their limbs.
-/
import Derived.Test.YtpnijncoldihfaaBackC10
namespace Go.Proofs.Ytpnijncoldihfaa
open Go.RowKit Go.Shelf

theorem wpAnyH_takeL {P : Program} {l : List Oper} {Q : Exit → Act → World → Prop} {md : Region.Mode} {S : World → Prop} {i : Nat} {oi : Oper} {v : Value} {fuel : Nat} {listed : Array Bool} {a : Act} {w : World} (hi : l[i]? = some oi)
    (hs : Region.noSelect l.toArray = true) (hf : Region.free md l.toArray listed i = true) (hr : (Region.ready md l.toArray listed).contains i = true)
    (hQ : ∀ c a w, Q (.panic c) (a.put oi.dst v) w → Q (.panic c) a w) (hy : YieldsIf P l.toArray S oi v a) (hS : S w)
    (h : wpAnyH P md l.toArray Q S fuel (listed.setIfInBounds i true) (a.put oi.dst v) w) : wpAnyH P md l.toArray Q S (fuel + 1) listed a w :=
  wpAnyH_take (by simpa using hi) hs hf hr hQ hy hS h

theorem put_list (l : List Value) (ds : List Deferred) (d : Nat) (v : Value) : Act.put { tmps := l.toArray, defers := ds } (some d) v = { tmps := (l.set d v).toArray, defers := ds } := by
  simp [Act.put]

end Go.Proofs.Ytpnijncoldihfaa

namespace Go.Proofs.Ytpnijncoldihfaa
open Go.RowKit Go.Shelf

/-- A digit to the base 2^32. -/
def dg (N j : Nat) : Nat := N / 4294967296 ^ j % 4294967296

/-- The number of the first n digits. -/
def vl (g : Nat → Nat) : Nat → Nat
  | 0 => 0
  | n + 1 => vl g n + g n * 4294967296 ^ n

theorem vl_lt {g : Nat → Nat} (n : Nat) (h : ∀ j, j < n → g j < 4294967296) : vl g n < 4294967296 ^ n := by
  induction n with
  | zero => simp [vl]
  | succ n ih =>
    have h1 := ih (fun j hj => h j (by omega))
    have h2 : (g n + 1) * 4294967296 ^ n ≤ 4294967296 * 4294967296 ^ n := Nat.mul_le_mul_right _ (h n (by omega))
    rw [Nat.pow_succ, Nat.mul_comm _ 4294967296]
    rw [Nat.add_mul, Nat.one_mul] at h2
    unfold vl
    omega

theorem vl_congr {f g : Nat → Nat} (n : Nat) (h : ∀ j, j < n → f j = g j) : vl f n = vl g n := by
  induction n with
  | zero => rfl
  | succ n ih => unfold vl; rw [ih (fun j hj => h j (by omega)), h n (by omega)]

theorem vl_add (g : Nat → Nat) (a n : Nat) : vl g (a + n) = vl g a + vl (fun j => g (a + j)) n * 4294967296 ^ a := by
  induction n with
  | zero => simp [vl]
  | succ n ih =>
    rw [← Nat.add_assoc]
    show vl g (a + n) + g (a + n) * 4294967296 ^ (a + n) = vl g a + (vl (fun j => g (a + j)) n + g (a + n) * 4294967296 ^ n) * 4294967296 ^ a
    rw [ih, Nat.add_mul, Nat.pow_add, Nat.mul_assoc (g (a + n)), Nat.mul_comm (4294967296 ^ a) (4294967296 ^ n)]
    omega

theorem vl_dg (N n : Nat) : vl (dg N) n = N % 4294967296 ^ n := by
  induction n with
  | zero => simp [vl, Nat.mod_one]
  | succ n ih =>
    unfold vl
    rw [ih]
    unfold dg
    rw [Nat.pow_succ, Nat.mod_mul, Nat.mul_comm (4294967296 ^ n)]

theorem dg_vl {g : Nat → Nat} (n : Nat) (h : ∀ j, j < n → g j < 4294967296) {i : Nat} (hi : i < n) : dg (vl g n) i = g i := by
  obtain ⟨d, rfl⟩ : ∃ d, n = i + 1 + d := ⟨n - (i + 1), by omega⟩
  rw [vl_add]
  unfold dg
  have h1 := vl_lt i (fun j hj => h j (by omega))
  have e : vl g (i + 1) + vl (fun j => g (i + 1 + j)) d * 4294967296 ^ (i + 1) = vl g i + 4294967296 ^ i * (g i + 4294967296 * vl (fun j => g (i + 1 + j)) d) := by
    show vl g i + g i * 4294967296 ^ i + _ = _
    rw [Nat.pow_succ, Nat.mul_add, Nat.mul_comm (g i), ← Nat.mul_assoc (4294967296 ^ i), Nat.mul_comm (vl (fun j => g (i + 1 + j)) d)]
    omega
  rw [e, Nat.add_mul_div_left _ _ (Nat.pow_pos (by decide)), Nat.div_eq_of_lt h1, Nat.zero_add, Nat.add_mul_mod_self_left, Nat.mod_eq_of_lt (h i (by omega))]

/-- The cells of seventeen digits. -/
def c17 (g : Nat → Nat) : Array Value := #[.int .u64 (g 0), .int .u64 (g 1), .int .u64 (g 2), .int .u64 (g 3), .int .u64 (g 4), .int .u64 (g 5), .int .u64 (g 6), .int .u64 (g 7), .int .u64 (g 8), .int .u64 (g 9), .int .u64 (g 10), .int .u64 (g 11), .int .u64 (g 12), .int .u64 (g 13), .int .u64 (g 14), .int .u64 (g 15), .int .u64 (g 16)]

theorem set17 (g : Nat → Nat) {j : Nat} (v : Nat) (h : j < 17) : (c17 g).setIfInBounds j (.int .u64 v) = c17 (fun i => if i = j then v else g i) := by
  match j, h with
  | 0, _ => rfl
  | 1, _ => rfl
  | 2, _ => rfl
  | 3, _ => rfl
  | 4, _ => rfl
  | 5, _ => rfl
  | 6, _ => rfl
  | 7, _ => rfl
  | 8, _ => rfl
  | 9, _ => rfl
  | 10, _ => rfl
  | 11, _ => rfl
  | 12, _ => rfl
  | 13, _ => rfl
  | 14, _ => rfl
  | 15, _ => rfl
  | 16, _ => rfl
  | k + 17, h => exact absurd h (by omega)

/-- The carry into a digit of a sum. -/
def cr (A B k : Nat) : Nat := (A % 4294967296 ^ k + B % 4294967296 ^ k) / 4294967296 ^ k

end Go.Proofs.Ytpnijncoldihfaa

namespace Go.Proofs.Ytpnijncoldihfaa
open Go.RowKit Go.Shelf

/-- A bit of a number. -/
def bt (X i : Nat) : Nat := X / 2 ^ i % 2

end Go.Proofs.Ytpnijncoldihfaa

namespace Go.Proofs.Ytpnijncoldihfaa
open Go.RowKit Go.Shelf

namespace KD
theorem guess_le {B first second high mid low K vlow plow g R q : Nat}
    (hg : g * first + R = high * B + mid) (hRf : R < first ∨ (g + 1 = B))
    (hq : q * ((first * B + second) * K + vlow) ≤ ((high * B + mid) * B + low) * K + plow) (hqB : q < B)
    (hl : low < B) (hp : plow < K) : q ≤ g := by
  rcases hRf with hR | hR
  · apply Nat.le_of_not_lt
    intro hlt
    have h1 : (g + 1) * first ≤ q * first := Nat.mul_le_mul_right _ hlt
    have h2 : high * B + mid + 1 ≤ q * first := by rw [Nat.add_mul] at h1; omega
    have h3 : (high * B + mid + 1) * (B * K) ≤ q * first * (B * K) := Nat.mul_le_mul_right _ h2
    have h4 : q * first * (B * K) ≤ q * ((first * B + second) * K + vlow) := by
      have : first * (B * K) ≤ (first * B + second) * K + vlow := by
        rw [Nat.add_mul, Nat.mul_assoc]; omega
      rw [Nat.mul_assoc]
      exact Nat.mul_le_mul_left _ this
    have h5 : ((high * B + mid) * B + low) * K + plow < (high * B + mid + 1) * (B * K) := by
      have : ((high * B + mid) * B + low + 1) * K ≤ ((high * B + mid) * B + B) * K := Nat.mul_le_mul_right _ (by omega)
      have e : (high * B + mid + 1) * (B * K) = ((high * B + mid) * B + B) * K := by
        rw [← Nat.mul_assoc, Nat.add_mul (high * B + mid), Nat.one_mul]
      rw [e]
      rw [Nat.add_mul _ 1] at this
      omega
    omega
  · omega

theorem guess_hit {B first second high mid low K vlow plow g R q : Nat}
    (hg : g * first + R = high * B + mid) (ht : R * B + low < g * second)
    (hq : q * ((first * B + second) * K + vlow) ≤ ((high * B + mid) * B + low) * K + plow) (hp : plow < K) : q + 1 ≤ g := by
  apply Nat.lt_of_not_le
  intro hle
  have h1 : g * ((first * B + second) * K + vlow) ≤ q * ((first * B + second) * K + vlow) := Nat.mul_le_mul_right _ hle
  have h2 : ((high * B + mid) * B + low + 1) ≤ g * (first * B + second) := by
    rw [Nat.mul_add, ← Nat.mul_assoc, ← hg, Nat.add_mul]; omega
  have h3 := Nat.mul_le_mul_right K h2
  rw [Nat.add_mul _ 1] at h3
  have h4 : g * (first * B + second) * K ≤ g * ((first * B + second) * K + vlow) := by
    rw [Nat.mul_assoc]; exact Nat.mul_le_mul_left _ (Nat.le_add_right _ _)
  omega

theorem guess_near {B first second high mid low K vlow plow g R : Nat}
    (hg : g * first + R = high * B + mid) (ht : g * second ≤ R * B + low) (hgB : g < B) (hv : vlow < K) (hf : 0 < first) :
    g * ((first * B + second) * K + vlow) ≤ ((high * B + mid) * B + low) * K + plow + ((first * B + second) * K + vlow) := by
  have h2 : g * (first * B + second) ≤ (high * B + mid) * B + low := by
    rw [Nat.mul_add, ← Nat.mul_assoc, ← hg, Nat.add_mul]; omega
  have h3 := Nat.mul_le_mul_right K h2
  have h4 : g * vlow ≤ B * K := Nat.mul_le_mul (by omega) (by omega)
  have h5 : B * K ≤ (first * B + second) * K := by
    apply Nat.mul_le_mul_right
    have : 1 * B ≤ first * B := Nat.mul_le_mul_right _ hf
    omega
  rw [Nat.mul_add, ← Nat.mul_assoc]
  omega

theorem guess_two {B first second high mid low K vlow plow g R : Nat}
    (hg : g * first + R = high * B + mid) (hgB : g < B) (hs : second < B) (hv : vlow < K) (hf : B ≤ 2 * first) :
    g * ((first * B + second) * K + vlow) ≤ ((high * B + mid) * B + low) * K + plow + 2 * ((first * B + second) * K + vlow) := by
  have h2 : g * (first * B + second) ≤ (high * B + mid) * B + g * second := by
    rw [Nat.mul_add, ← Nat.mul_assoc, ← hg, Nat.add_mul]; omega
  have h3 := Nat.mul_le_mul_right K h2
  have h4 : g * second * K + g * vlow ≤ g * (B * K) := by
    rw [Nat.mul_assoc, ← Nat.mul_add]
    apply Nat.mul_le_mul_left
    have : (second + 1) * K ≤ B * K := Nat.mul_le_mul_right _ hs
    rw [Nat.add_mul] at this
    omega
  have h5 : g * (B * K) ≤ 2 * ((first * B + second) * K) := by
    have h6 : g * (B * K) ≤ (2 * first) * (B * K) := Nat.mul_le_mul_right _ (by omega)
    have h7 : first * (B * K) ≤ (first * B + second) * K := by
      rw [← Nat.mul_assoc]; exact Nat.mul_le_mul_right _ (Nat.le_add_right _ _)
    rw [Nat.mul_assoc] at h6
    omega
  rw [Nat.mul_add, ← Nat.mul_assoc]
  rw [Nat.add_mul] at h3
  rw [Nat.add_mul _ low]
  omega

/-- A guess by the highest limbs is right or one too great. -/
theorem guess {B first second high mid low K vlow plow g0 R P v : Nat} (hit : Bool)
    (hvd : v = (first * B + second) * K + vlow) (hPd : P = ((high * B + mid) * B + low) * K + plow)
    (hg : g0 * first + R = high * B + mid) (hRf : R < first ∨ (g0 + 1 = B)) (hgB : g0 < B)
    (hhit : hit = decide (R * B + low < g0 * second)) (hPv : P < v * B) (hs : second < B) (hl : low < B) (hv : vlow < K) (hp : plow < K) (hf : B ≤ 2 * first) (hB : 0 < B) :
    P / v ≤ (if hit then g0 - 1 else g0) ∧ (if hit then g0 - 1 else g0) ≤ P / v + 1 ∧ (if hit then g0 - 1 else g0) < B := by
  have hK : 0 < K := by omega
  have hf0 : 0 < first := by omega
  have hvpos : 0 < v := by
    rw [hvd]
    have : 0 < first * B := Nat.mul_pos hf0 hB
    have : 0 < (first * B + second) * K := Nat.mul_pos (by omega) hK
    omega
  have hq : P / v * v ≤ P := Nat.div_mul_le_self _ _
  have hqB : P / v < B := by
    rw [Nat.div_lt_iff_lt_mul hvpos, Nat.mul_comm]; exact hPv
  have hq' := hq
  rw [hPd] at hq'
  conv at hq' => lhs; rw [hvd]
  have le0 : P / v ≤ g0 := by
    refine guess_le (vlow := vlow) (second := second) hg hRf ?_ hqB hl hp
    rw [← hvd, ← hPd]; exact hq
  by_cases ht : R * B + low < g0 * second
  · have e : hit = true := by rw [hhit]; simpa using ht
    rw [e]
    simp only [if_true]
    have h1 : P / v + 1 ≤ g0 := by
      refine guess_hit (vlow := vlow) (plow := plow) hg ht ?_ hp
      rw [← hvd, ← hPd]; exact hq
    have h2 := guess_two (low := low) (plow := plow) hg hgB hs hv hf
    rw [← hvd, ← hPd] at h2
    refine ⟨by omega, ?_, by omega⟩
    have h3 : (g0 - 2) * v ≤ P := by
      rw [Nat.sub_mul]; omega
    have := (Nat.le_div_iff_mul_le hvpos).2 h3
    omega
  · have e : hit = false := by rw [hhit]; simpa using ht
    rw [e]
    simp only [Bool.false_eq_true, if_false]
    have h2 := guess_near (plow := plow) hg (by omega : g0 * second ≤ R * B + low) hgB hv hf0
    rw [← hvd, ← hPd] at h2
    refine ⟨le0, ?_, hgB⟩
    have h3 : (g0 - 1) * v ≤ P := by
      rw [Nat.sub_mul]; omega
    have := (Nat.le_div_iff_mul_le hvpos).2 h3
    omega

end KD

/-- The number of the first n limbs. -/
def val (g : Nat → Nat) : Nat → Nat
  | 0 => 0
  | n + 1 => val g n + g n * 18446744073709551616 ^ n

theorem val_lt {g : Nat → Nat} (n : Nat) (h : ∀ j, j < n → g j < 18446744073709551616) : val g n < 18446744073709551616 ^ n := by
  induction n with
  | zero => simp [val]
  | succ n ih =>
    have h1 := ih (fun j hj => h j (by omega))
    have h2 : (g n + 1) * 18446744073709551616 ^ n ≤ 18446744073709551616 * 18446744073709551616 ^ n := Nat.mul_le_mul_right _ (h n (by omega))
    rw [Nat.pow_succ, Nat.mul_comm _ 18446744073709551616]
    rw [Nat.add_mul, Nat.one_mul] at h2
    unfold val
    omega

theorem val_congr {f g : Nat → Nat} (n : Nat) (h : ∀ j, j < n → f j = g j) : val f n = val g n := by
  induction n with
  | zero => rfl
  | succ n ih => unfold val; rw [ih (fun j hj => h j (by omega)), h n (by omega)]

theorem val_add (g : Nat → Nat) (a n : Nat) : val g (a + n) = val g a + val (fun j => g (a + j)) n * 18446744073709551616 ^ a := by
  induction n with
  | zero => simp [val]
  | succ n ih =>
    rw [← Nat.add_assoc]
    show val g (a + n) + g (a + n) * 18446744073709551616 ^ (a + n) = val g a + (val (fun j => g (a + j)) n + g (a + n) * 18446744073709551616 ^ n) * 18446744073709551616 ^ a
    rw [ih, Nat.add_mul, Nat.pow_add, Nat.mul_assoc (g (a + n)), Nat.mul_comm (18446744073709551616 ^ a) (18446744073709551616 ^ n)]
    omega

theorem val_limb (N n : Nat) : val (limb N) n = N % 18446744073709551616 ^ n := by
  induction n with
  | zero => simp [val, Nat.mod_one]
  | succ n ih =>
    unfold val
    rw [ih]
    unfold limb
    rw [Nat.pow_succ, Nat.mod_mul, Nat.mul_comm (18446744073709551616 ^ n)]

theorem limb_val {g : Nat → Nat} (n : Nat) (h : ∀ j, j < n → g j < 18446744073709551616) {i : Nat} (hi : i < n) : limb (val g n) i = g i := by
  obtain ⟨d, rfl⟩ : ∃ d, n = i + 1 + d := ⟨n - (i + 1), by omega⟩
  rw [val_add]
  unfold limb
  have h1 := val_lt i (fun j hj => h j (by omega))
  have e : val g (i + 1) + val (fun j => g (i + 1 + j)) d * 18446744073709551616 ^ (i + 1) = val g i + 18446744073709551616 ^ i * (g i + 18446744073709551616 * val (fun j => g (i + 1 + j)) d) := by
    show val g i + g i * 18446744073709551616 ^ i + _ = _
    rw [Nat.pow_succ, Nat.mul_add, Nat.mul_comm (g i), ← Nat.mul_assoc (18446744073709551616 ^ i), Nat.mul_comm (val (fun j => g (i + 1 + j)) d)]
    omega
  rw [e, Nat.add_mul_div_left _ _ (Nat.pow_pos (by decide)), Nat.div_eq_of_lt h1, Nat.zero_add, Nat.add_mul_mod_self_left, Nat.mod_eq_of_lt (h i (by omega))]

end Go.Proofs.Ytpnijncoldihfaa
