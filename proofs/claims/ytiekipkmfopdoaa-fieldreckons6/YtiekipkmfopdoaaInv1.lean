/-
  Inverses modulo 2^64.
-/
import Derived.Test.YtiekipkmfopdoaaEnds
namespace Go.Proofs.Ytiekipkmfopdoaa
open Go.RowKit Go.Shelf

theorem inv_zero (n : Nat) (hn : n % 2 = 1) : ((1 - (n : Int)) ^ (2 ^ 6)) % 18446744073709551616 = 0 := by
  obtain ⟨k, hk⟩ : ∃ k : Int, 1 - (n : Int) = 2 * k := ⟨(1 - (n : Int)) / 2, by omega⟩
  rw [hk, Int.mul_pow]
  have e : (2 : Int) ^ (2 ^ 6) = 18446744073709551616 := by decide
  rw [e]
  exact Int.mul_emod_right _ _

theorem inv_fin (n x : Nat) (h : (1 - (n : Int) * (x : Int)) % 18446744073709551616 = 0) : n * x % 18446744073709551616 = 1 := by
  have e : ((n : Int) * (x : Int)) = ((n * x : Nat) : Int) := (Int.natCast_mul n x).symm
  rw [e] at h
  omega

theorem mul_em (a b K : Int) : (a * (b % K)) % K = (a * b) % K := by rw [Int.mul_emod, Int.emod_emod, ← Int.mul_emod]
theorem sub_em (a b K : Int) : (a - b % K) % K = (a - b) % K := by rw [Int.sub_emod, Int.emod_emod, ← Int.sub_emod]

theorem inv_wrap (n x : Nat) (d : Int) (h : (1 - (n : Int) * (x : Int)) % 18446744073709551616 = d % 18446744073709551616) : ∃ y : Nat, y < 18446744073709551616 ∧
    IntKind.u64.wrap ((x : Int) * IntKind.u64.wrap (2 - IntKind.u64.wrap ((n : Int) * (x : Int)))) = (y : Int) ∧ (1 - (n : Int) * (y : Int)) % 18446744073709551616 = (d * d) % 18446744073709551616 := by
  refine ⟨(((x : Int) * (2 - (n : Int) * (x : Int))) % 18446744073709551616).toNat, by omega, ?_, ?_⟩
  · have h0 : (0 : Int) ≤ ((x : Int) * (2 - (n : Int) * (x : Int))) % 18446744073709551616 := Int.emod_nonneg _ (by decide)
    rw [Int.toNat_of_nonneg h0]
    simp only [IntKind.wrap_u64]
    rw [mul_em, Int.mul_emod, sub_em, ← Int.mul_emod]
  · have h0 : (0 : Int) ≤ ((x : Int) * (2 - (n : Int) * (x : Int))) % 18446744073709551616 := Int.emod_nonneg _ (by decide)
    rw [Int.toNat_of_nonneg h0, ← MN.inv_step n x d _ h, Int.sub_emod, mul_em, ← Int.sub_emod]

set_option maxHeartbeats 400000 in
set_option maxRecDepth 100000 in
theorem inverse_any (n : Nat) (hn : n % 2 = 1) (w : World) : Calls Try.prog 71 #[.int .u64 n] w fun e w' => (∃ x : Nat, e = .returned (.int .u64 x) ∧ x < 18446744073709551616 ∧ n * x % 18446744073709551616 = 1) ∧ w = w' := by
  have HN := hideP hn
  clear hn
  go_enter Try.func71, Try.ntmps71
  go_wp2_with fail
  go_loopw [3, 4] (fun v i wr => wr = w ∧ ∃ k x : Nat, k ≤ 6 ∧ i = .int .i64 k ∧ v = .int .u64 x ∧ x < 18446744073709551616 ∧ (1 - (n : Int) * (x : Int)) % 18446744073709551616 = ((1 - (n : Int)) ^ (2 ^ k)) % 18446744073709551616) (fun _ i _ => 6 - (intOf i).toNat)
  case atStart => exact ⟨rfl, 0, 1, by omega, rfl, rfl, by decide, by rw [show 2 ^ 0 = 1 from rfl, Int.pow_succ, Int.pow_zero]; simp⟩
  case round =>
    obtain ⟨rfl, k, x, hk, rfl, rfl, hx, hd⟩ := hrel
    by_cases hlt : k < 6
    · obtain ⟨y, hy, e1, e2⟩ := inv_wrap n x _ hd
      rw [← Int.pow_add, ← Nat.two_mul, Nat.mul_comm 2, ← Nat.pow_succ] at e2
      have HY : Hid (y < 18446744073709551616 ∧ (1 - (n : Int) * (y : Int)) % 18446744073709551616 = ((1 - (n : Int)) ^ (2 ^ (k + 1))) % 18446744073709551616) := ⟨hy, e2⟩
      have hlt' : (k : Int) < 6 := by omega
      have e4 : IntKind.i64.wrap ((k : Int) + 1) = (k : Int) + 1 := by rw [IntKind.wrap_i64]; omega
      have HKS : Hid (k + 1 ≤ 6) := hlt
      clear hk hlt hx hd hy e2
      go_wp2_with fail
      exact ⟨⟨trivial, k + 1, y, HKS.out, by go_num, rfl, HY.out.1, HY.out.2⟩, by have := HKS.out; simp [intOf]; omega⟩
    · have hkn : k = 6 := by omega
      have hnl : ¬ (k : Int) < 6 := by omega
      rw [hkn, inv_zero n HN.out] at hd
      have HD : Hid (x < 18446744073709551616 ∧ n * x % 18446744073709551616 = 1) := ⟨hx, inv_fin n x hd⟩
      clear hk hlt hx hd hkn
      go_wp2
      go_ret
      exact ⟨⟨x, rfl, HD.out⟩, rfl⟩

end Go.Proofs.Ytiekipkmfopdoaa
