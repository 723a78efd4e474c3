/-
  A word times a limb.
-/
import Derived.Test.YtpnijncoldihfaaBytesC37
namespace Go.Proofs.Ytpnijncoldihfaa
open Go.RowKit Go.Shelf

theorem num_row {x0 x1 x2 x3 y a l0 l1 l2 l3 h0 h1 h2 h3 : Nat} (e0 : x0 * y + a + 0 = l0 + 18446744073709551616 * h0) (e1 : x1 * y + h0 + 0 = l1 + 18446744073709551616 * h1)
    (e2 : x2 * y + h1 + 0 = l2 + 18446744073709551616 * h2) (e3 : x3 * y + h2 + 0 = l3 + 18446744073709551616 * h3) : num x0 x1 x2 x3 * y + a = num l0 l1 l2 l3 + M256 * h3 := by
  have s : ∀ {B x Q y a l h R : Nat}, x * y + a + 0 = l + B * h → Q * y + h = R → (x + B * Q) * y + a = l + B * R := by
    intro B x Q y a l h R e1 e2
    subst e2
    rw [Nat.add_mul, Nat.mul_add, Nat.mul_assoc]
    omega
  have t3 : x3 * y + h2 = l3 + 18446744073709551616 * h3 := by omega
  have t2 := s e2 t3
  have t1 := s e1 t2
  have t0 := s e0 t1
  rw [Gen.flat] at t0
  rw [M256_eq]
  exact t0

set_option maxHeartbeats 1000000 in
set_option maxRecDepth 100000 in
theorem multiplyLimb_any (X y a : Nat) (hy : y < 18446744073709551616) (ha : a < 18446744073709551616) (w : World) : Calls Try.prog 135 #[wv X, .int .u64 y, .int .u64 a] w fun e w' => ∃ c : Nat, e = .returned (.tuple #[wv (X * y + a), .int .u64 c]) ∧ X % M256 * y + a = (X * y + a) % M256 + M256 * c ∧ Below w.heap.size w w' := by
  obtain ⟨x0, x1, x2, x3, hx0, hx1, hx2, hx3, eX, hX⟩ := wv_limbs X
  rw [hX]
  obtain ⟨h0, l0, bh0, bl0, e0, m0⟩ := multiplyAdd_ex x0 y a 0 hx0 hy ha (by decide)
  replace m0 : ∀ w, Calls Try.prog 91 #[.int .u64 x0, .int .u64 y, .int .u64 a, .int .u64 (0 : Int)] w fun e w' => e = .returned (.tuple #[.int .u64 h0, .int .u64 l0]) ∧ w = w' := m0
  obtain ⟨h1, l1, bh1, bl1, e1, m1⟩ := multiplyAdd_ex x1 y h0 0 hx1 hy bh0 (by decide)
  replace m1 : ∀ w, Calls Try.prog 91 #[.int .u64 x1, .int .u64 y, .int .u64 h0, .int .u64 (0 : Int)] w fun e w' => e = .returned (.tuple #[.int .u64 h1, .int .u64 l1]) ∧ w = w' := m1
  obtain ⟨h2, l2, bh2, bl2, e2, m2⟩ := multiplyAdd_ex x2 y h1 0 hx2 hy bh1 (by decide)
  replace m2 : ∀ w, Calls Try.prog 91 #[.int .u64 x2, .int .u64 y, .int .u64 h1, .int .u64 (0 : Int)] w fun e w' => e = .returned (.tuple #[.int .u64 h2, .int .u64 l2]) ∧ w = w' := m2
  obtain ⟨h3, l3, bh3, bl3, e3, m3⟩ := multiplyAdd_ex x3 y h2 0 hx3 hy bh2 (by decide)
  replace m3 : ∀ w, Calls Try.prog 91 #[.int .u64 x3, .int .u64 y, .int .u64 h2, .int .u64 (0 : Int)] w fun e w' => e = .returned (.tuple #[.int .u64 h3, .int .u64 l3]) ∧ w = w' := m3
  have hr := num_row e0 e1 e2 e3
  rw [← eX] at hr
  have hm : (X * y + a) % M256 = num l0 l1 l2 l3 := by
    have : (X % M256 * y + a) % M256 = (X * y + a) % M256 := by rw [Nat.add_mod, Nat.mul_mod, Nat.mod_mod, ← Nat.mul_mod, ← Nat.add_mod]
    rw [← this, hr, Nat.add_mul_mod_self_left, Nat.mod_eq_of_lt (num_lt bl0 bl1 bl2 bl3)]
  have HR : Hid (Value.agg #[.int .u64 l0, .int .u64 l1, .int .u64 l2, .int .u64 l3] = wv (X * y + a) ∧ X % M256 * y + a = (X * y + a) % M256 + M256 * h3) := ⟨wv_num bl0 bl1 bl2 bl3 hm, by rw [hr, hm]⟩
  clear hr hm eX hX hy ha hx0 hx1 hx2 hx3 bh0 bh1 bh2 bh3 bl0 bl1 bl2 bl3 e0 e1 e2 e3
  go_enter Try.func135, Try.ntmps135
  go_wp2_with fail
  refine wp_loop_rounds 5 ?_
  rw [rounds_succ]
  go_wp2_with fail
  refine (m0 _).mono ?_
  rintro e w' ⟨rfl, rfl⟩
  go_wp2_with fail
  rw [rounds_succ]
  go_wp2_with fail
  refine (m1 _).mono ?_
  rintro e w' ⟨rfl, rfl⟩
  go_wp2_with fail
  rw [rounds_succ]
  go_wp2_with fail
  refine (m2 _).mono ?_
  rintro e w' ⟨rfl, rfl⟩
  go_wp2_with fail
  rw [rounds_succ]
  go_wp2_with fail
  refine (m3 _).mono ?_
  rintro e w' ⟨rfl, rfl⟩
  go_wp2_with fail
  rw [rounds_succ]
  go_wp2_with fail
  refine bodyPost_ret (v := .tuple #[.agg #[.int .u64 l0, .int .u64 l1, .int .u64 l2, .int .u64 l3], .int .u64 h3]) (by simp [results, Try.results135, go_sem]) rfl ⟨h3, by rw [HR.out.1], HR.out.2, ?_⟩
  repeat first | exact Below.refl _ _ | apply Below.drew | (refine Below.alloc ?_ (by simp <;> omega) _) | (refine Below.setCell ?_ (by simp <;> omega) _)

end Go.Proofs.Ytpnijncoldihfaa
