/-
  A product and two summands, as two limbs.
-/
import Derived.Test.YtpnijncoldihfaaBytesC03
namespace Go.Proofs.Ytpnijncoldihfaa
open Go.RowKit Go.Shelf

theorem prod_le {x y B : Nat} (hx : x < B) (hy : y < B) : x * y + 2 * B ≤ B * B + 1 := by
  have h : x * y ≤ (B - 1) * (B - 1) := Nat.mul_le_mul (by omega) (by omega)
  obtain ⟨C, rfl⟩ : ∃ C, B = C + 1 := ⟨B - 1, by omega⟩
  simp only [Nat.add_sub_cancel] at h
  have e : (C + 1) * (C + 1) = C * C + 2 * C + 1 := by rw [Nat.add_mul, Nat.mul_add]; omega
  omega

set_option maxHeartbeats 400000 in
set_option maxRecDepth 100000 in
theorem multiplyAdd_any (x y a b : Nat) (hx : x < 18446744073709551616) (hy : y < 18446744073709551616) (ha : a < 18446744073709551616) (hb : b < 18446744073709551616) (w : World) :
    Calls Try.prog 91 #[.int .u64 x, .int .u64 y, .int .u64 a, .int .u64 b] w fun e w' => ∃ h l : Nat, e = .returned (.tuple #[.int .u64 h, .int .u64 l]) ∧ (h < 18446744073709551616 ∧ l < 18446744073709551616 ∧ x * y + a + b = l + 18446744073709551616 * h) ∧ w = w' := by
  have hm := mul64_any x y hx hy w
  have hle := prod_le hx hy
  obtain ⟨P, hP⟩ : ∃ P, P = x * y := ⟨_, rfl⟩
  rw [← hP] at hm hle ⊢
  clear hP
  have hlo : P % 18446744073709551616 < 18446744073709551616 := Nat.mod_lt _ (by decide)
  have hP := Nat.mod_add_div P 18446744073709551616
  generalize P % 18446744073709551616 = lo at hm hlo hP
  generalize P / 18446744073709551616 = hi at hm hP
  obtain ⟨l1, c1, i1, j1, e1, k1⟩ := add64_ex0 lo a hlo ha
  obtain ⟨l2, c2, i2, j2, e2, k2⟩ := add64_ex0 l1 b i1 hb
  have hh : hi + c1 + c2 < 18446744073709551616 := by omega
  have HR : Hid (hi + c1 + c2 < 18446744073709551616 ∧ l2 < 18446744073709551616 ∧ P + a + b = l2 + 18446744073709551616 * (hi + c1 + c2)) := ⟨hh, i2, by omega⟩
  have s1 : IntKind.u64.wrap ((hi : Int) + c1) = (hi : Int) + c1 := by rw [IntKind.wrap_u64]; omega
  have s2 : IntKind.u64.wrap ((hi : Int) + c1 + c2) = (hi : Int) + c1 + c2 := by rw [IntKind.wrap_u64]; omega
  clear hle hP hlo i1 j1 e1 i2 j2 e2 hh hx hy ha hb
  go_enter Try.func91, Try.ntmps91
  go_wp2_with (go_at_call 119; refine hm.mono ?_; rintro e w' ⟨rfl, rfl⟩)
  go_ret2
  exact ⟨hi + c1 + c2, l2, by simp, HR.out, rfl⟩

theorem multiplyAdd_ex (x y a b : Nat) (hx : x < 18446744073709551616) (hy : y < 18446744073709551616) (ha : a < 18446744073709551616) (hb : b < 18446744073709551616) :
    ∃ h l : Nat, h < 18446744073709551616 ∧ l < 18446744073709551616 ∧ x * y + a + b = l + 18446744073709551616 * h ∧
      ∀ w, Calls Try.prog 91 #[.int .u64 x, .int .u64 y, .int .u64 a, .int .u64 b] w fun e w' => e = .returned (.tuple #[.int .u64 h, .int .u64 l]) ∧ w = w' := by
  have hB : 0 < 18446744073709551616 := by decide
  have hle := prod_le hx hy
  refine ⟨(x * y + a + b) / 18446744073709551616, (x * y + a + b) % 18446744073709551616, ?_, Nat.mod_lt _ hB, (Nat.mod_add_div _ _).symm, fun w => ?_⟩
  · rw [Nat.div_lt_iff_lt_mul hB]; omega
  · refine (multiplyAdd_any x y a b hx hy ha hb w).mono ?_
    rintro e w' ⟨h, l, rfl, ⟨_, hl, he⟩, rfl⟩
    refine ⟨?_, rfl⟩
    have h1 : (x * y + a + b) / 18446744073709551616 = h := by rw [he, Nat.add_mul_div_left _ _ hB, Nat.div_eq_of_lt hl, Nat.zero_add]
    have h2 : (x * y + a + b) % 18446744073709551616 = l := by rw [he, Nat.add_mul_mod_self_left, Nat.mod_eq_of_lt hl]
    rw [h1, h2]

end Go.Proofs.Ytpnijncoldihfaa
