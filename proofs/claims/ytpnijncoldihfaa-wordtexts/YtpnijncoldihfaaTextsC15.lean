/-
  Digits and bits of numbers.
-/
import Derived.Test.YtpnijncoldihfaaTextsC14
import Derived.Test.YtpnijncoldihfaaTextsC09
namespace Go.Proofs.Ytpnijncoldihfaa
open Go.RowKit Go.Shelf

theorem num_row {x0 x1 x2 x3 y a l0 l1 l2 l3 h0 h1 h2 h3 : Nat} (e0 : x0 * y + a + 0 = l0 + 18446744073709551616 * h0) (e1 : x1 * y + h0 + 0 = l1 + 18446744073709551616 * h1)
    (e2 : x2 * y + h1 + 0 = l2 + 18446744073709551616 * h2) (e3 : x3 * y + h2 + 0 = l3 + 18446744073709551616 * h3) : num x0 x1 x2 x3 * y + a = num l0 l1 l2 l3 + M256 * h3 := by
  have s : ∀ {B x Q y a l h R : Nat}, x * y + a + 0 = l + B * h → Q * y + h = R → (x + B * Q) * y + a = l + B * R := by
    intro B x Q y a l h R e1 e2
    subst e2
    rw [Nat.add_mul, Nat.mul_add, Nat.mul_assoc]
    omega
  have t3 : x3 * y + h2 = l3 + 18446744073709551616 * h3 := by omega
  have t2 := s e2 t3
  have t1 := s e1 t2
  have t0 := s e0 t1
  rw [Gen.flat] at t0
  rw [M256_eq]
  exact t0

set_option maxHeartbeats 1000000 in
set_option maxRecDepth 100000 in
theorem multiplyLimb_any (X y a : Nat) (hy : y < 18446744073709551616) (ha : a < 18446744073709551616) (w : World) : Calls Try.prog 135 #[wv X, .int .u64 y, .int .u64 a] w fun e w' => ∃ c : Nat, e = .returned (.tuple #[wv (X * y + a), .int .u64 c]) ∧ X % M256 * y + a = (X * y + a) % M256 + M256 * c ∧ Below w.heap.size w w' := by
  obtain ⟨x0, x1, x2, x3, hx0, hx1, hx2, hx3, eX, hX⟩ := wv_limbs X
  rw [hX]
  obtain ⟨h0, l0, bh0, bl0, e0, m0⟩ := multiplyAdd_ex x0 y a 0 hx0 hy ha (by decide)
  replace m0 : ∀ w, Calls Try.prog 91 #[.int .u64 x0, .int .u64 y, .int .u64 a, .int .u64 (0 : Int)] w fun e w' => e = .returned (.tuple #[.int .u64 h0, .int .u64 l0]) ∧ w = w' := m0
  obtain ⟨h1, l1, bh1, bl1, e1, m1⟩ := multiplyAdd_ex x1 y h0 0 hx1 hy bh0 (by decide)
  replace m1 : ∀ w, Calls Try.prog 91 #[.int .u64 x1, .int .u64 y, .int .u64 h0, .int .u64 (0 : Int)] w fun e w' => e = .returned (.tuple #[.int .u64 h1, .int .u64 l1]) ∧ w = w' := m1
  obtain ⟨h2, l2, bh2, bl2, e2, m2⟩ := multiplyAdd_ex x2 y h1 0 hx2 hy bh1 (by decide)
  replace m2 : ∀ w, Calls Try.prog 91 #[.int .u64 x2, .int .u64 y, .int .u64 h1, .int .u64 (0 : Int)] w fun e w' => e = .returned (.tuple #[.int .u64 h2, .int .u64 l2]) ∧ w = w' := m2
  obtain ⟨h3, l3, bh3, bl3, e3, m3⟩ := multiplyAdd_ex x3 y h2 0 hx3 hy bh2 (by decide)
  replace m3 : ∀ w, Calls Try.prog 91 #[.int .u64 x3, .int .u64 y, .int .u64 h2, .int .u64 (0 : Int)] w fun e w' => e = .returned (.tuple #[.int .u64 h3, .int .u64 l3]) ∧ w = w' := m3
  have hr := num_row e0 e1 e2 e3
  rw [← eX] at hr
  have hm : (X * y + a) % M256 = num l0 l1 l2 l3 := by
    have : (X % M256 * y + a) % M256 = (X * y + a) % M256 := by rw [Nat.add_mod, Nat.mul_mod, Nat.mod_mod, ← Nat.mul_mod, ← Nat.add_mod]
    rw [← this, hr, Nat.add_mul_mod_self_left, Nat.mod_eq_of_lt (num_lt bl0 bl1 bl2 bl3)]
  have HR : Hid (Value.agg #[.int .u64 l0, .int .u64 l1, .int .u64 l2, .int .u64 l3] = wv (X * y + a) ∧ X % M256 * y + a = (X * y + a) % M256 + M256 * h3) := ⟨wv_num bl0 bl1 bl2 bl3 hm, by rw [hr, hm]⟩
  clear hr hm eX hX hy ha hx0 hx1 hx2 hx3 bh0 bh1 bh2 bh3 bl0 bl1 bl2 bl3 e0 e1 e2 e3
  go_enter Try.func135, Try.ntmps135
  go_wp2_with fail
  refine wp_loop_rounds 5 ?_
  rw [rounds_succ]
  go_wp2_with fail
  refine (m0 _).mono ?_
  rintro e w' ⟨rfl, rfl⟩
  go_wp2_with fail
  rw [rounds_succ]
  go_wp2_with fail
  refine (m1 _).mono ?_
  rintro e w' ⟨rfl, rfl⟩
  go_wp2_with fail
  rw [rounds_succ]
  go_wp2_with fail
  refine (m2 _).mono ?_
  rintro e w' ⟨rfl, rfl⟩
  go_wp2_with fail
  rw [rounds_succ]
  go_wp2_with fail
  refine (m3 _).mono ?_
  rintro e w' ⟨rfl, rfl⟩
  go_wp2_with fail
  rw [rounds_succ]
  go_wp2_with fail
  refine bodyPost_ret (v := .tuple #[.agg #[.int .u64 l0, .int .u64 l1, .int .u64 l2, .int .u64 l3], .int .u64 h3]) (by simp [results, Try.results135, go_sem]) rfl ⟨h3, by rw [HR.out.1], HR.out.2, ?_⟩
  repeat first | exact Below.refl _ _ | apply Below.drew | (refine Below.alloc ?_ (by simp <;> omega) _) | (refine Below.setCell ?_ (by simp <;> omega) _)

end Go.Proofs.Ytpnijncoldihfaa

namespace Go.Proofs.Ytpnijncoldihfaa
open Go.RowKit Go.Shelf

theorem wpAnyH_takeL {P : Program} {l : List Oper} {Q : Exit → Act → World → Prop} {md : Region.Mode} {S : World → Prop} {i : Nat} {oi : Oper} {v : Value} {fuel : Nat} {listed : Array Bool} {a : Act} {w : World} (hi : l[i]? = some oi)
    (hs : Region.noSelect l.toArray = true) (hf : Region.free md l.toArray listed i = true) (hr : (Region.ready md l.toArray listed).contains i = true)
    (hQ : ∀ c a w, Q (.panic c) (a.put oi.dst v) w → Q (.panic c) a w) (hy : YieldsIf P l.toArray S oi v a) (hS : S w)
    (h : wpAnyH P md l.toArray Q S fuel (listed.setIfInBounds i true) (a.put oi.dst v) w) : wpAnyH P md l.toArray Q S (fuel + 1) listed a w :=
  wpAnyH_take (by simpa using hi) hs hf hr hQ hy hS h

theorem put_list (l : List Value) (ds : List Deferred) (d : Nat) (v : Value) : Act.put { tmps := l.toArray, defers := ds } (some d) v = { tmps := (l.set d v).toArray, defers := ds } := by
  simp [Act.put]

end Go.Proofs.Ytpnijncoldihfaa

namespace Go.Proofs.Ytpnijncoldihfaa
open Go.RowKit Go.Shelf

/-- A digit to the base 2^32. -/
def dg (N j : Nat) : Nat := N / 4294967296 ^ j % 4294967296

theorem dg_lt (N j : Nat) : dg N j < 4294967296 := Nat.mod_lt _ (by decide)

/-- The number of the first n digits. -/
def vl (g : Nat → Nat) : Nat → Nat
  | 0 => 0
  | n + 1 => vl g n + g n * 4294967296 ^ n

theorem vl_lt {g : Nat → Nat} (n : Nat) (h : ∀ j, j < n → g j < 4294967296) : vl g n < 4294967296 ^ n := by
  induction n with
  | zero => simp [vl]
  | succ n ih =>
    have h1 := ih (fun j hj => h j (by omega))
    have h2 : (g n + 1) * 4294967296 ^ n ≤ 4294967296 * 4294967296 ^ n := Nat.mul_le_mul_right _ (h n (by omega))
    rw [Nat.pow_succ, Nat.mul_comm _ 4294967296]
    rw [Nat.add_mul, Nat.one_mul] at h2
    unfold vl
    omega

theorem vl_congr {f g : Nat → Nat} (n : Nat) (h : ∀ j, j < n → f j = g j) : vl f n = vl g n := by
  induction n with
  | zero => rfl
  | succ n ih => unfold vl; rw [ih (fun j hj => h j (by omega)), h n (by omega)]

theorem vl_add (g : Nat → Nat) (a n : Nat) : vl g (a + n) = vl g a + vl (fun j => g (a + j)) n * 4294967296 ^ a := by
  induction n with
  | zero => simp [vl]
  | succ n ih =>
    rw [← Nat.add_assoc]
    show vl g (a + n) + g (a + n) * 4294967296 ^ (a + n) = vl g a + (vl (fun j => g (a + j)) n + g (a + n) * 4294967296 ^ n) * 4294967296 ^ a
    rw [ih, Nat.add_mul, Nat.pow_add, Nat.mul_assoc (g (a + n)), Nat.mul_comm (4294967296 ^ a) (4294967296 ^ n)]
    omega

theorem vl_dg (N n : Nat) : vl (dg N) n = N % 4294967296 ^ n := by
  induction n with
  | zero => simp [vl, Nat.mod_one]
  | succ n ih =>
    unfold vl
    rw [ih]
    unfold dg
    rw [Nat.pow_succ, Nat.mod_mul, Nat.mul_comm (4294967296 ^ n)]

theorem dg_vl {g : Nat → Nat} (n : Nat) (h : ∀ j, j < n → g j < 4294967296) {i : Nat} (hi : i < n) : dg (vl g n) i = g i := by
  obtain ⟨d, rfl⟩ : ∃ d, n = i + 1 + d := ⟨n - (i + 1), by omega⟩
  rw [vl_add]
  unfold dg
  have h1 := vl_lt i (fun j hj => h j (by omega))
  have e : vl g (i + 1) + vl (fun j => g (i + 1 + j)) d * 4294967296 ^ (i + 1) = vl g i + 4294967296 ^ i * (g i + 4294967296 * vl (fun j => g (i + 1 + j)) d) := by
    show vl g i + g i * 4294967296 ^ i + _ = _
    rw [Nat.pow_succ, Nat.mul_add, Nat.mul_comm (g i), ← Nat.mul_assoc (4294967296 ^ i), Nat.mul_comm (vl (fun j => g (i + 1 + j)) d)]
    omega
  rw [e, Nat.add_mul_div_left _ _ (Nat.pow_pos (by decide)), Nat.div_eq_of_lt h1, Nat.zero_add, Nat.add_mul_mod_self_left, Nat.mod_eq_of_lt (h i (by omega))]

theorem dg_even (N i : Nat) : dg N (2 * i) = limb N i % 4294967296 := by
  unfold dg limb
  rw [Nat.pow_mul, show (4294967296 : Nat) ^ 2 = 18446744073709551616 by decide, Nat.mod_mod_of_dvd _ (by decide)]

theorem dg_odd (N i : Nat) : dg N (2 * i + 1) = limb N i / 4294967296 := by
  unfold dg limb
  rw [Nat.pow_succ, Nat.pow_mul, show (4294967296 : Nat) ^ 2 = 18446744073709551616 by decide, ← Nat.div_div_eq_div_mul]
  generalize N / 18446744073709551616 ^ i = m
  omega

theorem dg_high {N j n : Nat} (h : N < 4294967296 ^ n) (hj : n ≤ j) : dg N j = 0 := by
  unfold dg
  rw [Nat.div_eq_of_lt (Nat.lt_of_lt_of_le h (Nat.pow_le_pow_right (by decide) hj))]

/-- The cells of seventeen digits. -/
def c17 (g : Nat → Nat) : Array Value := #[.int .u64 (g 0), .int .u64 (g 1), .int .u64 (g 2), .int .u64 (g 3), .int .u64 (g 4), .int .u64 (g 5), .int .u64 (g 6), .int .u64 (g 7), .int .u64 (g 8), .int .u64 (g 9), .int .u64 (g 10), .int .u64 (g 11), .int .u64 (g 12), .int .u64 (g 13), .int .u64 (g 14), .int .u64 (g 15), .int .u64 (g 16)]

theorem get17 (g : Nat → Nat) {j : Nat} (h : j < 17) : (c17 g)[j]? = some (.int .u64 (g j)) := by
  match j, h with
  | 0, _ => rfl
  | 1, _ => rfl
  | 2, _ => rfl
  | 3, _ => rfl
  | 4, _ => rfl
  | 5, _ => rfl
  | 6, _ => rfl
  | 7, _ => rfl
  | 8, _ => rfl
  | 9, _ => rfl
  | 10, _ => rfl
  | 11, _ => rfl
  | 12, _ => rfl
  | 13, _ => rfl
  | 14, _ => rfl
  | 15, _ => rfl
  | 16, _ => rfl
  | k + 17, h => exact absurd h (by omega)

theorem set17 (g : Nat → Nat) {j : Nat} (v : Nat) (h : j < 17) : (c17 g).setIfInBounds j (.int .u64 v) = c17 (fun i => if i = j then v else g i) := by
  match j, h with
  | 0, _ => rfl
  | 1, _ => rfl
  | 2, _ => rfl
  | 3, _ => rfl
  | 4, _ => rfl
  | 5, _ => rfl
  | 6, _ => rfl
  | 7, _ => rfl
  | 8, _ => rfl
  | 9, _ => rfl
  | 10, _ => rfl
  | 11, _ => rfl
  | 12, _ => rfl
  | 13, _ => rfl
  | 14, _ => rfl
  | 15, _ => rfl
  | 16, _ => rfl
  | k + 17, h => exact absurd h (by omega)

theorem c17_congr {f g : Nat → Nat} (h : ∀ j, j < 17 → f j = g j) : c17 f = c17 g := by
  unfold c17
  rw [h 0 (by omega), h 1 (by omega), h 2 (by omega), h 3 (by omega), h 4 (by omega), h 5 (by omega), h 6 (by omega), h 7 (by omega), h 8 (by omega), h 9 (by omega), h 10 (by omega), h 11 (by omega), h 12 (by omega), h 13 (by omega), h 14 (by omega), h 15 (by omega), h 16 (by omega)]

/-- The value of a number of seventeen digits. -/
def lv (N : Nat) : Value := .agg (c17 (dg N))

/-- The carry into a digit of a sum. -/
def cr (A B k : Nat) : Nat := (A % 4294967296 ^ k + B % 4294967296 ^ k) / 4294967296 ^ k

theorem cr_le (A B k : Nat) : cr A B k ≤ 1 := by
  unfold cr
  have hP : 0 < 4294967296 ^ k := Nat.pow_pos (by decide)
  have h1 := Nat.mod_lt A hP
  have h2 := Nat.mod_lt B hP
  apply Nat.le_of_lt_succ
  rw [Nat.div_lt_iff_lt_mul hP]
  omega

theorem cr_step (A B k : Nat) : (dg A k + dg B k + cr A B k) % 4294967296 = dg (A + B) k ∧ (dg A k + dg B k + cr A B k) / 4294967296 = cr A B (k + 1) := by
  have hP : 0 < 4294967296 ^ k := Nat.pow_pos (by decide)
  unfold dg cr
  rw [Nat.pow_succ]
  generalize 4294967296 ^ k = P at *
  have hA := Nat.mod_mul (x := A) (a := P) (b := 4294967296)
  have hB := Nat.mod_mul (x := B) (a := P) (b := 4294967296)
  have hd := Nat.mod_add_div (A % P + B % P) P
  have hs : (A % P + B % P) % P = (A + B) % P := (Nat.add_mod A B P).symm
  rw [hs] at hd
  have hl := Nat.mod_lt (A + B) hP
  have e : A % (P * 4294967296) + B % (P * 4294967296) = (A + B) % P + P * (A / P % 4294967296 + B / P % 4294967296 + (A % P + B % P) / P) := by
    rw [hA, hB, Nat.mul_add, Nat.mul_add]
    omega
  generalize A / P % 4294967296 + B / P % 4294967296 + (A % P + B % P) / P = t at *
  refine ⟨?_, ?_⟩
  · have h3 : (A + B) % (P * 4294967296) = ((A + B) % P + P * t) % (P * 4294967296) := by rw [Nat.add_mod, e]
    have h4 : (A + B) / P % 4294967296 = (A + B) % (P * 4294967296) / P := (Nat.mod_mul_right_div_self _ _ _).symm
    rw [h4, h3, Nat.mod_mul_right_div_self, Nat.add_mul_div_left _ _ hP, Nat.div_eq_of_lt hl, Nat.zero_add]
  · rw [e, ← Nat.div_div_eq_div_mul, Nat.add_mul_div_left _ _ hP, Nat.div_eq_of_lt hl, Nat.zero_add]

end Go.Proofs.Ytpnijncoldihfaa

namespace Go.Proofs.Ytpnijncoldihfaa
open Go.RowKit Go.Shelf

theorem dg_double_add (R b j : Nat) (hb : b ≤ 1) : dg (2 * R + b) j = if j = 0 then dg (2 * R) 0 + b else dg (2 * R) j := by
  cases j with
  | zero => rw [if_pos rfl]; unfold dg; rw [Nat.pow_zero, Nat.div_one, Nat.div_one]; omega
  | succ j =>
    rw [if_neg (by omega)]
    unfold dg
    rw [Nat.pow_succ, Nat.mul_comm (4294967296 ^ j), ← Nat.div_div_eq_div_mul, ← Nat.div_div_eq_div_mul, show (2 * R + b) / 4294967296 = 2 * R / 4294967296 by omega]

theorem dg_shift_low (m d j : Nat) (h : j < d) : dg (4294967296 ^ d * m) j = 0 := by
  obtain ⟨t, rfl⟩ : ∃ t, d = j + (t + 1) := ⟨d - j - 1, by omega⟩
  unfold dg
  rw [Nat.pow_add, Nat.mul_assoc, Nat.mul_div_cancel_left _ (Nat.pow_pos (by decide)), Nat.pow_succ, Nat.mul_comm (4294967296 ^ t), Nat.mul_assoc, Nat.mul_mod_right]

theorem dg_shift_high (m d t : Nat) : dg (4294967296 ^ d * m) (d + t) = dg m t := by
  unfold dg
  rw [Nat.pow_add, ← Nat.div_div_eq_div_mul, Nat.mul_div_cancel_left _ (Nat.pow_pos (by decide))]

theorem dg_bit_zero (K s t : Nat) (hs : s < 32) : dg (2 ^ s * (2 * K + 1)) t = if t = 0 then dg (2 ^ s * (2 * K)) 0 + 2 ^ s else dg (2 ^ s * (2 * K)) t := by
  have hB : (4294967296 : Nat) = 2 ^ s * 2 ^ (32 - s) := by rw [← Nat.pow_add, show s + (32 - s) = 32 by omega]
  obtain ⟨u, hu⟩ : ∃ u, 32 - s = u + 1 := ⟨31 - s, by omega⟩
  have hP : 0 < 2 ^ s := Nat.pow_pos (by decide)
  have hU : 0 < 2 ^ u := Nat.pow_pos (by decide)
  rw [hu, Nat.pow_succ] at hB
  have h1 : 2 ^ s * (2 * K + 1) % 4294967296 = 2 ^ s * (2 * K) % 4294967296 + 2 ^ s := by
    rw [hB, Nat.mul_mod_mul_left, Nat.mul_mod_mul_left]
    have : (2 * K + 1) % (2 ^ u * 2) = 2 * K % (2 ^ u * 2) + 1 := by
      rw [Nat.mul_comm (2 ^ u), Nat.mul_mod_mul_left, Nat.mod_mul]
      rw [show (2 * K + 1) / 2 = K by omega]
      omega
    rw [this, Nat.mul_add, Nat.mul_one]
  have h2 : 2 ^ s * (2 * K + 1) / 4294967296 = 2 ^ s * (2 * K) / 4294967296 := by
    rw [hB, Nat.mul_div_mul_left _ _ hP, Nat.mul_div_mul_left _ _ hP, Nat.mul_comm (2 ^ u), ← Nat.div_div_eq_div_mul, ← Nat.div_div_eq_div_mul]
    rw [show (2 * K + 1) / 2 = K by omega, show 2 * K / 2 = K by omega]
  cases t with
  | zero => rw [if_pos rfl]; unfold dg; rw [Nat.pow_zero, Nat.div_one, Nat.div_one]; exact h1
  | succ t =>
    rw [if_neg (by omega)]
    unfold dg
    rw [Nat.pow_succ, Nat.mul_comm (4294967296 ^ t), ← Nat.div_div_eq_div_mul, ← Nat.div_div_eq_div_mul, h2]

theorem pow32 (i : Nat) : 2 ^ i = 4294967296 ^ (i / 32) * 2 ^ (i % 32) := by
  rw [show (4294967296 : Nat) = 2 ^ 32 by decide, ← Nat.pow_mul, ← Nat.pow_add, Nat.div_add_mod]

theorem dg_add_bit (K i j : Nat) : dg (K * 2 ^ (i + 1) + 2 ^ i) j = if j = i / 32 then dg (K * 2 ^ (i + 1)) j + 2 ^ (i % 32) else dg (K * 2 ^ (i + 1)) j := by
  have e1 : K * 2 ^ (i + 1) + 2 ^ i = 4294967296 ^ (i / 32) * (2 ^ (i % 32) * (2 * K + 1)) := by
    rw [← Nat.mul_assoc, ← pow32, Nat.pow_succ, Nat.mul_add, Nat.mul_one, Nat.mul_comm K, Nat.mul_assoc]
  have e2 : K * 2 ^ (i + 1) = 4294967296 ^ (i / 32) * (2 ^ (i % 32) * (2 * K)) := by
    rw [← Nat.mul_assoc, ← pow32, Nat.pow_succ, Nat.mul_comm K, Nat.mul_assoc]
  rw [e1, e2]
  rcases Nat.lt_or_ge j (i / 32) with h | h
  · rw [dg_shift_low _ _ _ h, dg_shift_low _ _ _ h, if_neg (by omega)]
  · obtain ⟨t, rfl⟩ : ∃ t, j = i / 32 + t := ⟨j - i / 32, by omega⟩
    rw [dg_shift_high, dg_shift_high, dg_bit_zero _ _ _ (Nat.mod_lt _ (by decide))]
    by_cases ht : t = 0
    · subst ht; rw [if_pos rfl, if_pos (Nat.add_zero _)]
    · rw [if_neg ht, if_neg (by omega)]

theorem dg_bit (A i : Nat) : dg A (i / 32) / 2 ^ (i % 32) % 2 = A / 2 ^ i % 2 := by
  unfold dg
  have h := Nat.mod_lt i (show 0 < 32 by decide)
  rw [pow32 i, ← Nat.div_div_eq_div_mul]
  generalize A / 4294967296 ^ (i / 32) = x
  rw [← Nat.toNat_testBit, ← Nat.toNat_testBit, show (4294967296 : Nat) = 2 ^ 32 by decide, Nat.testBit_mod_two_pow]
  simp [h]

/-- One more bit of a division. -/
theorem split_step (A B i : Nat) (hB : 0 < B) :
    A / 2 ^ i = 2 * (A / 2 ^ (i + 1)) + A / 2 ^ i % 2 ∧
    (2 * (A / 2 ^ (i + 1) % B) + A / 2 ^ i % 2 < B → A / 2 ^ i % B = 2 * (A / 2 ^ (i + 1) % B) + A / 2 ^ i % 2 ∧ A / 2 ^ i / B * 2 ^ i = A / 2 ^ (i + 1) / B * 2 ^ (i + 1)) ∧
    (B ≤ 2 * (A / 2 ^ (i + 1) % B) + A / 2 ^ i % 2 → A / 2 ^ i % B = 2 * (A / 2 ^ (i + 1) % B) + A / 2 ^ i % 2 - B ∧ A / 2 ^ i / B * 2 ^ i = A / 2 ^ (i + 1) / B * 2 ^ (i + 1) + 2 ^ i) := by
  have e : A / 2 ^ (i + 1) = A / 2 ^ i / 2 := by rw [Nat.pow_succ, Nat.div_div_eq_div_mul]
  rw [e, Nat.pow_succ]
  generalize A / 2 ^ i = m
  generalize 2 ^ i = P
  have h1 := Nat.div_add_mod (m / 2) B
  have h2 := Nat.mod_lt (m / 2) hB
  generalize m / 2 / B = q at *
  generalize m / 2 % B = r at *
  have h3 : m = B * (2 * q) + (2 * r + m % 2) := by
    have : B * (2 * q) = 2 * (B * q) := by rw [← Nat.mul_assoc, Nat.mul_comm B 2, Nat.mul_assoc]
    omega
  refine ⟨by omega, fun h => ?_, fun h => ?_⟩
  · have hm : m % B = 2 * r + m % 2 := by
      generalize m % 2 = b at *
      rw [h3, Nat.mul_add_mod, Nat.mod_eq_of_lt h]
    have hd : m / B = 2 * q := by
      generalize m % 2 = b at *
      rw [h3, Nat.mul_add_div hB, Nat.div_eq_of_lt h]; omega
    refine ⟨hm, ?_⟩
    rw [hd, Nat.mul_comm 2 q, Nat.mul_assoc, Nat.mul_comm P 2]
  · have h4 : m = B * (2 * q + 1) + (2 * r + m % 2 - B) := by rw [Nat.mul_add, Nat.mul_one]; omega
    have h5 : 2 * r + m % 2 - B < B := by omega
    have hm : m % B = 2 * r + m % 2 - B := by
      generalize m % 2 = b at *
      rw [h4, Nat.mul_add_mod, Nat.mod_eq_of_lt h5]
    have hd : m / B = 2 * q + 1 := by
      generalize m % 2 = b at *
      rw [h4, Nat.mul_add_div hB, Nat.div_eq_of_lt h5]
    refine ⟨hm, ?_⟩
    rw [hd, Nat.add_mul, Nat.one_mul, Nat.mul_comm 2 q, Nat.mul_assoc, Nat.mul_comm P 2]

theorem topStep (A k : Nat) (hA : A < 4294967296 ^ (k + 1 + 1)) (h : dg A (k + 1) = 0) : A < 4294967296 ^ (k + 1) := by
  unfold dg at h
  have h1 : A / 4294967296 ^ (k + 1) < 4294967296 := by
    rw [Nat.div_lt_iff_lt_mul (Nat.pow_pos (by decide)), Nat.mul_comm, ← Nat.pow_succ]
    exact hA
  rw [Nat.mod_eq_of_lt h1] at h
  rcases Nat.lt_or_ge A (4294967296 ^ (k + 1)) with h2 | h2
  · exact h2
  · have := Nat.div_pos h2 (Nat.pow_pos (by decide))
    omega

theorem topZero (A k : Nat) (hA : A < 4294967296 ^ (k + 1)) : A / 2 ^ (32 * k + 32) = 0 := by
  rw [show 32 * k + 32 = 32 * (k + 1) by omega, Nat.pow_mul]
  exact Nat.div_eq_of_lt hA

/-- A bit of a number. -/
def bt (X i : Nat) : Nat := X / 2 ^ i % 2

theorem bt_le (X i : Nat) : bt X i ≤ 1 := by unfold bt; omega

end Go.Proofs.Ytpnijncoldihfaa
