/-
  Words bit by bit.
-/
import Derived.Test.YtpnijncoldihfaaBitsC03
namespace Go.Proofs.Ytpnijncoldihfaa
open Go.RowKit Go.Shelf

theorem pair_testBit {a : Nat} (b : Nat) (ha : a < 18446744073709551616) (i : Nat) : (a + 18446744073709551616 * b).testBit i = if i < 64 then a.testBit i else b.testBit (i - 64) := by
  have h64 : a < 2 ^ 64 := by simpa using ha
  rw [show (18446744073709551616 : Nat) = 2 ^ 64 by decide, Nat.add_comm, Nat.testBit_two_pow_mul_add b h64]

theorem pair_bits (f : Nat → Nat → Nat) (g : Bool → Bool → Bool) (hg : g false false = false) (hf : ∀ x y i, (f x y).testBit i = g (x.testBit i) (y.testBit i)) {a c : Nat} (b d : Nat) (ha : a < 18446744073709551616) (hc : c < 18446744073709551616) :
    f (a + 18446744073709551616 * b) (c + 18446744073709551616 * d) = f a c + 18446744073709551616 * f b d := by
  have hfl : f a c < 18446744073709551616 := by
    rw [show (18446744073709551616 : Nat) = 2 ^ 64 by decide]
    apply Nat.lt_pow_two_of_testBit
    intro i hi
    have h1 : a.testBit i = false := Nat.testBit_lt_two_pow (Nat.lt_of_lt_of_le (by simpa using ha : a < 2 ^ 64) (Nat.pow_le_pow_right (by omega) hi))
    have h2 : c.testBit i = false := Nat.testBit_lt_two_pow (Nat.lt_of_lt_of_le (by simpa using hc : c < 2 ^ 64) (Nat.pow_le_pow_right (by omega) hi))
    rw [hf, h1, h2, hg]
  apply Nat.eq_of_testBit_eq
  intro i
  rw [hf, pair_testBit b ha, pair_testBit d hc, pair_testBit _ hfl]
  split <;> rw [hf]

theorem num_bits (f : Nat → Nat → Nat) (g : Bool → Bool → Bool) (hg : g false false = false) (hf : ∀ x y i, (f x y).testBit i = g (x.testBit i) (y.testBit i)) {x0 x1 x2 x3 y0 y1 y2 y3 : Nat}
    (hx0 : x0 < 18446744073709551616) (hx1 : x1 < 18446744073709551616) (hx2 : x2 < 18446744073709551616) (hy0 : y0 < 18446744073709551616) (hy1 : y1 < 18446744073709551616) (hy2 : y2 < 18446744073709551616) :
    f (num x0 x1 x2 x3) (num y0 y1 y2 y3) = num (f x0 y0) (f x1 y1) (f x2 y2) (f x3 y3) := by
  unfold num
  rw [pair_bits f g hg hf _ _ hx0 hy0, pair_bits f g hg hf _ _ hx1 hy1, pair_bits f g hg hf _ _ hx2 hy2]

set_option maxHeartbeats 1000000 in
set_option maxRecDepth 100000 in
theorem xor_any (X Y : Nat) (w : World) : Calls Try.prog 55 #[wv X, wv Y] w fun e w' => e = .returned (wv (X % M256 ^^^ Y % M256)) ∧ Below w.heap.size w w' := by
  obtain ⟨x0, x1, x2, x3, hx0, hx1, hx2, hx3, eX, hX⟩ := wv_limbs X
  obtain ⟨y0, y1, y2, y3, hy0, hy1, hy2, hy3, eY, hY⟩ := wv_limbs Y
  have hl : ∀ x y : Nat, x < 18446744073709551616 → y < 18446744073709551616 → x ^^^ y < 18446744073709551616 := fun x y hx hy => by have := Nat.xor_lt_two_pow (n := 64) (by simpa using hx) (by simpa using hy); simpa using this
  have hn := num_bits (fun a b => a ^^^ b) Bool.xor rfl (fun x y i => Nat.testBit_xor x y i) hx0 hx1 hx2 hy0 hy1 hy2 (x3 := x3) (y3 := y3)
  have hr : Value.agg #[.int .u64 ((x0 ^^^ y0 : Nat) : Int), .int .u64 ((x1 ^^^ y1 : Nat) : Int), .int .u64 ((x2 ^^^ y2 : Nat) : Int), .int .u64 ((x3 ^^^ y3 : Nat) : Int)] = wv (X % M256 ^^^ Y % M256) := by
    refine wv_num (hl _ _ hx0 hy0) (hl _ _ hx1 hy1) (hl _ _ hx2 hy2) (hl _ _ hx3 hy3) ?_
    rw [eX, eY, hn]
    exact Nat.mod_eq_of_lt (num_lt (hl _ _ hx0 hy0) (hl _ _ hx1 hy1) (hl _ _ hx2 hy2) (hl _ _ hx3 hy3))
  rw [hX, hY]
  have n0 := bits_xor_u64_nat x0 y0 hx0 hy0
  have n1 := bits_xor_u64_nat x1 y1 hx1 hy1
  have n2 := bits_xor_u64_nat x2 y2 hx2 hy2
  have n3 := bits_xor_u64_nat x3 y3 hx3 hy3
  have HR := hideP hr
  clear hr eX hX eY hY hx0 hx1 hx2 hx3 hy0 hy1 hy2 hy3 hn hl
  generalize x0 ^^^ y0 = z0 at n0 HR
  generalize x1 ^^^ y1 = z1 at n1 HR
  generalize x2 ^^^ y2 = z2 at n2 HR
  generalize x3 ^^^ y3 = z3 at n3 HR
  go_enter Try.func55, Try.ntmps55
  go_wp2_with fail
  refine wp_loop_rounds 5 ?_
  rw [rounds_succ]
  go_wp2_with fail
  go_region
  go_wp2_with fail
  rw [rounds_succ]
  go_wp2_with fail
  go_region
  go_wp2_with fail
  rw [rounds_succ]
  go_wp2_with fail
  go_region
  go_wp2_with fail
  rw [rounds_succ]
  go_wp2_with fail
  go_region
  go_wp2_with fail
  rw [rounds_succ]
  go_wp2
  refine bodyPost_ret (v := .agg #[.int .u64 z0, .int .u64 z1, .int .u64 z2, .int .u64 z3]) (by simp [results, Try.results55, go_sem]) rfl ⟨by rw [HR.out], ?_⟩
  repeat first | exact Below.refl _ _ | apply Below.drew | (refine Below.alloc ?_ (by simp <;> omega) _) | (refine Below.setCell ?_ (by simp <;> omega) _)

set_option maxHeartbeats 1000000 in
set_option maxRecDepth 100000 in
theorem and_any (X Y : Nat) (w : World) : Calls Try.prog 52 #[wv X, wv Y] w fun e w' => e = .returned (wv (X % M256 &&& Y % M256)) ∧ Below w.heap.size w w' := by
  obtain ⟨x0, x1, x2, x3, hx0, hx1, hx2, hx3, eX, hX⟩ := wv_limbs X
  obtain ⟨y0, y1, y2, y3, hy0, hy1, hy2, hy3, eY, hY⟩ := wv_limbs Y
  have hl : ∀ x y : Nat, x < 18446744073709551616 → y < 18446744073709551616 → x &&& y < 18446744073709551616 := fun x y _ hy => Nat.lt_of_le_of_lt Nat.and_le_right hy
  have hn := num_bits (fun a b => a &&& b) Bool.and rfl (fun x y i => Nat.testBit_and x y i) hx0 hx1 hx2 hy0 hy1 hy2 (x3 := x3) (y3 := y3)
  have hr : Value.agg #[.int .u64 ((x0 &&& y0 : Nat) : Int), .int .u64 ((x1 &&& y1 : Nat) : Int), .int .u64 ((x2 &&& y2 : Nat) : Int), .int .u64 ((x3 &&& y3 : Nat) : Int)] = wv (X % M256 &&& Y % M256) := by
    refine wv_num (hl _ _ hx0 hy0) (hl _ _ hx1 hy1) (hl _ _ hx2 hy2) (hl _ _ hx3 hy3) ?_
    rw [eX, eY, hn]
    exact Nat.mod_eq_of_lt (num_lt (hl _ _ hx0 hy0) (hl _ _ hx1 hy1) (hl _ _ hx2 hy2) (hl _ _ hx3 hy3))
  rw [hX, hY]
  have n0 := bits_and_u64_nat x0 y0 hx0 hy0
  have n1 := bits_and_u64_nat x1 y1 hx1 hy1
  have n2 := bits_and_u64_nat x2 y2 hx2 hy2
  have n3 := bits_and_u64_nat x3 y3 hx3 hy3
  have HR := hideP hr
  clear hr eX hX eY hY hx0 hx1 hx2 hx3 hy0 hy1 hy2 hy3 hn hl
  generalize x0 &&& y0 = z0 at n0 HR
  generalize x1 &&& y1 = z1 at n1 HR
  generalize x2 &&& y2 = z2 at n2 HR
  generalize x3 &&& y3 = z3 at n3 HR
  go_enter Try.func52, Try.ntmps52
  go_wp2_with fail
  refine wp_loop_rounds 5 ?_
  rw [rounds_succ]
  go_wp2_with fail
  go_region
  go_wp2_with fail
  rw [rounds_succ]
  go_wp2_with fail
  go_region
  go_wp2_with fail
  rw [rounds_succ]
  go_wp2_with fail
  go_region
  go_wp2_with fail
  rw [rounds_succ]
  go_wp2_with fail
  go_region
  go_wp2_with fail
  rw [rounds_succ]
  go_wp2
  refine bodyPost_ret (v := .agg #[.int .u64 z0, .int .u64 z1, .int .u64 z2, .int .u64 z3]) (by simp [results, Try.results52, go_sem]) rfl ⟨by rw [HR.out], ?_⟩
  repeat first | exact Below.refl _ _ | apply Below.drew | (refine Below.alloc ?_ (by simp <;> omega) _) | (refine Below.setCell ?_ (by simp <;> omega) _)

set_option maxHeartbeats 1000000 in
set_option maxRecDepth 100000 in
theorem or_any (X Y : Nat) (w : World) : Calls Try.prog 54 #[wv X, wv Y] w fun e w' => e = .returned (wv (X % M256 ||| Y % M256)) ∧ Below w.heap.size w w' := by
  obtain ⟨x0, x1, x2, x3, hx0, hx1, hx2, hx3, eX, hX⟩ := wv_limbs X
  obtain ⟨y0, y1, y2, y3, hy0, hy1, hy2, hy3, eY, hY⟩ := wv_limbs Y
  have hl : ∀ x y : Nat, x < 18446744073709551616 → y < 18446744073709551616 → x ||| y < 18446744073709551616 := fun x y hx hy => by have := Nat.or_lt_two_pow (n := 64) (by simpa using hx) (by simpa using hy); simpa using this
  have hn := num_bits (fun a b => a ||| b) Bool.or rfl (fun x y i => Nat.testBit_or x y i) hx0 hx1 hx2 hy0 hy1 hy2 (x3 := x3) (y3 := y3)
  have hr : Value.agg #[.int .u64 ((x0 ||| y0 : Nat) : Int), .int .u64 ((x1 ||| y1 : Nat) : Int), .int .u64 ((x2 ||| y2 : Nat) : Int), .int .u64 ((x3 ||| y3 : Nat) : Int)] = wv (X % M256 ||| Y % M256) := by
    refine wv_num (hl _ _ hx0 hy0) (hl _ _ hx1 hy1) (hl _ _ hx2 hy2) (hl _ _ hx3 hy3) ?_
    rw [eX, eY, hn]
    exact Nat.mod_eq_of_lt (num_lt (hl _ _ hx0 hy0) (hl _ _ hx1 hy1) (hl _ _ hx2 hy2) (hl _ _ hx3 hy3))
  rw [hX, hY]
  have n0 := bits_or_u64_nat x0 y0 hx0 hy0
  have n1 := bits_or_u64_nat x1 y1 hx1 hy1
  have n2 := bits_or_u64_nat x2 y2 hx2 hy2
  have n3 := bits_or_u64_nat x3 y3 hx3 hy3
  have HR := hideP hr
  clear hr eX hX eY hY hx0 hx1 hx2 hx3 hy0 hy1 hy2 hy3 hn hl
  generalize x0 ||| y0 = z0 at n0 HR
  generalize x1 ||| y1 = z1 at n1 HR
  generalize x2 ||| y2 = z2 at n2 HR
  generalize x3 ||| y3 = z3 at n3 HR
  go_enter Try.func54, Try.ntmps54
  go_wp2_with fail
  refine wp_loop_rounds 5 ?_
  rw [rounds_succ]
  go_wp2_with fail
  go_region
  go_wp2_with fail
  rw [rounds_succ]
  go_wp2_with fail
  go_region
  go_wp2_with fail
  rw [rounds_succ]
  go_wp2_with fail
  go_region
  go_wp2_with fail
  rw [rounds_succ]
  go_wp2_with fail
  go_region
  go_wp2_with fail
  rw [rounds_succ]
  go_wp2
  refine bodyPost_ret (v := .agg #[.int .u64 z0, .int .u64 z1, .int .u64 z2, .int .u64 z3]) (by simp [results, Try.results54, go_sem]) rfl ⟨by rw [HR.out], ?_⟩
  repeat first | exact Below.refl _ _ | apply Below.drew | (refine Below.alloc ?_ (by simp <;> omega) _) | (refine Below.setCell ?_ (by simp <;> omega) _)

theorem sign_limb (x : Nat) (h : x < 18446744073709551616) : bits .xor .u64 (x : Int) 9223372036854775808 = (((x + 9223372036854775808) % 18446744073709551616 : Nat) : Int) := by
  have hb := bits_xor_u64_nat x 9223372036854775808 h (by omega)
  have e : x ^^^ 9223372036854775808 = (x + 9223372036854775808) % 18446744073709551616 := by
    have h2 : (9223372036854775808 : Nat) = 2 ^ 63 := by decide
    apply Nat.eq_of_testBit_eq
    intro i
    rw [h2, show (18446744073709551616 : Nat) = 2 ^ 64 by decide, Nat.testBit_xor, Nat.testBit_two_pow, Nat.testBit_mod_two_pow]
    have hx64 : x < 2 ^ 64 := by simpa using h
    rcases Nat.lt_trichotomy i 63 with hi | hi | hi
    · have h3 : (x + 2 ^ 63).testBit i = x.testBit i := by
        rw [Nat.add_comm]; exact Nat.testBit_two_pow_add_gt hi x
      simp [h3, show ¬ (63 = i) by omega, show i < 64 by omega]
    · subst hi
      have h3 : (x + 2 ^ 63).testBit 63 = !x.testBit 63 := by
        rw [Nat.add_comm]; exact Nat.testBit_two_pow_add_eq x 63
      simp [h3]
    · have h3 : x.testBit i = false := Nat.testBit_lt_two_pow (Nat.lt_of_lt_of_le hx64 (Nat.pow_le_pow_right (by omega) (by omega)))
      simp [h3, show ¬ (63 = i) by omega, show ¬ i < 64 by omega]
  rw [e] at hb
  exact hb

set_option maxHeartbeats 1000000 in
set_option maxRecDepth 100000 in
theorem turnSign_any (X : Nat) (w : World) : Calls Try.prog 109 #[wv X] w fun e w' => e = .returned (wv (X + S255)) ∧ Below w.heap.size w w' := by
  obtain ⟨x0, x1, x2, x3, hx0, hx1, hx2, hx3, eX, hX⟩ := wv_limbs X
  have n3 := sign_limb x3 hx3
  have hr : Value.agg #[.int .u64 x0, .int .u64 x1, .int .u64 x2, .int .u64 (((x3 + 9223372036854775808) % 18446744073709551616 : Nat) : Int)] = wv (X + S255) := by
    refine wv_num hx0 hx1 hx2 (Nat.mod_lt _ (by decide)) ?_
    rw [← Nat.mod_add_mod, eX]
    have h4 := num_lt hx0 hx1 hx2 (Nat.mod_lt (x3 + 9223372036854775808) (by decide : 0 < 18446744073709551616))
    have hd := Nat.mod_add_div (x3 + 9223372036854775808) 18446744073709551616
    generalize (x3 + 9223372036854775808) % 18446744073709551616 = r at hd h4 ⊢
    generalize (x3 + 9223372036854775808) / 18446744073709551616 = q at hd
    have e : num x0 x1 x2 x3 + S255 = num x0 x1 x2 r + M256 * q := by
      unfold num S255 M256
      omega
    rw [e, Nat.add_mul_mod_self_left, Nat.mod_eq_of_lt h4]
  rw [hX]
  have HR := hideP hr
  clear hr eX hX hx0 hx1 hx2 hx3
  generalize (x3 + 9223372036854775808) % 18446744073709551616 = z3 at n3 HR
  go_enter Try.func109, Try.ntmps109
  go_wp2
  refine bodyPost_ret (v := .agg #[.int .u64 x0, .int .u64 x1, .int .u64 x2, .int .u64 z3]) (by simp [results, Try.results109, go_sem]) rfl ⟨by rw [HR.out], ?_⟩
  repeat first | exact Below.refl _ _ | apply Below.drew | (refine Below.alloc ?_ (by simp <;> omega) _) | (refine Below.setCell ?_ (by simp <;> omega) _)

end Go.Proofs.Ytpnijncoldihfaa
