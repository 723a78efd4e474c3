/-
  How many limbs there are without the leading ones that are 0.
-/
import Derived.Test.YtpnijncoldihfaaBytesC05
namespace Go.Proofs.Ytpnijncoldihfaa
open Go.RowKit Go.Shelf

/-- A limb of a number. -/
def limb (N k : Nat) : Nat := N / 18446744073709551616 ^ k % 18446744073709551616

theorem limb_lt (N k : Nat) : limb N k < 18446744073709551616 := Nat.mod_lt _ (by decide)

theorem limb_succ (N k : Nat) : limb N (k + 1) = limb (N / 18446744073709551616) k := by
  unfold limb
  rw [Nat.pow_succ, Nat.mul_comm, Nat.div_div_eq_div_mul]

theorem limb_zero_of {a r : Nat} (h : a < 18446744073709551616) : limb (a + 18446744073709551616 * r) 0 = a := by
  unfold limb
  rw [Nat.pow_zero, Nat.div_one]
  exact (digit_of _ _ _ h).1

theorem limb_succ_of {a r k : Nat} (h : a < 18446744073709551616) : limb (a + 18446744073709551616 * r) (k + 1) = limb r k := by
  rw [limb_succ, (digit_of _ _ _ h).2]

/-- The value of a number of eight limbs. -/
def w8 (N : Nat) : Value := .agg #[.int .u64 (limb N 0), .int .u64 (limb N 1), .int .u64 (limb N 2), .int .u64 (limb N 3), .int .u64 (limb N 4), .int .u64 (limb N 5), .int .u64 (limb N 6), .int .u64 (limb N 7)]

theorem w8_mk {a b c d e f g h k : Nat} (ha : a < 18446744073709551616) (hb : b < 18446744073709551616) (hc : c < 18446744073709551616) (hd : d < 18446744073709551616) (he : e < 18446744073709551616) (hf : f < 18446744073709551616) (hg : g < 18446744073709551616) (hh : h < 18446744073709551616) {N : Nat}
    (hN : N = a + 18446744073709551616 * (b + 18446744073709551616 * (c + 18446744073709551616 * (d + 18446744073709551616 * (e + 18446744073709551616 * (f + 18446744073709551616 * (g + 18446744073709551616 * (h + 18446744073709551616 * k)))))))) :
    Value.agg #[.int .u64 a, .int .u64 b, .int .u64 c, .int .u64 d, .int .u64 e, .int .u64 f, .int .u64 g, .int .u64 h] = w8 N := by
  subst hN
  unfold w8
  simp only [limb_zero_of ha, limb_succ_of ha, limb_zero_of hb, limb_succ_of hb, limb_zero_of hc, limb_succ_of hc, limb_zero_of hd, limb_succ_of hd, limb_zero_of he, limb_succ_of he, limb_zero_of hf, limb_succ_of hf, limb_zero_of hg, limb_succ_of hg, limb_zero_of hh]

theorem wv_limb (X : Nat) : wv X = .agg #[.int .u64 (limb X 0), .int .u64 (limb X 1), .int .u64 (limb X 2), .int .u64 (limb X 3)] := by
  obtain ⟨x0, x1, x2, x3, k, h0, h1, h2, h3, e, hv⟩ := wv_open X
  rw [hv, e]
  simp only [limb_zero_of h0, limb_succ_of h0, limb_zero_of h1, limb_succ_of h1, limb_zero_of h2, limb_succ_of h2, limb_zero_of h3]

end Go.Proofs.Ytpnijncoldihfaa

namespace Go.Proofs.Ytpnijncoldihfaa
open Go.RowKit Go.Shelf

set_option maxHeartbeats 1000000 in
set_option maxRecDepth 100000 in
theorem used_any (w : World) (b n cap : Nat) (f : Nat → Nat) (hn : n ≤ 9) (hc : ∀ j, j < n → w.cell? ⟨b, j, none⟩ = some (.int .u64 (f j))) :
    Calls Try.prog 111 #[.slice (some ⟨b, 0, none⟩) n cap] w fun e w' => (∃ k : Nat, e = .returned (.int .i64 k) ∧ k ≤ n ∧ (∀ j, k ≤ j → j < n → f j = 0) ∧ (0 < k → f (k - 1) ≠ 0)) ∧ w = w' := by
  go_enter Try.func111, Try.ntmps111
  go_wp2_with fail
  go_loop [3, 6] (fun _ i => ∃ k : Nat, k ≤ n ∧ i = .int .i64 k ∧ ∀ j, n - k ≤ j → j < n → f j = 0) (fun _ i => n - (intOf i).toNat)
  case atStart => exact ⟨0, Nat.zero_le _, rfl, fun j h1 h2 => by omega⟩
  case round =>
    obtain ⟨k, hk, rfl, hz⟩ := hrel
    have HZ := hideP hz
    clear hz
    by_cases hlt : k < n
    · obtain ⟨j, hj⟩ : ∃ j, j = n - 1 - k := ⟨_, rfl⟩
      have hcj := hc j (by omega)
      have e1 : IntKind.i64.wrap ((n : Int) - 1) = (n : Int) - 1 := by rw [IntKind.wrap_i64]; omega
      have e2 : IntKind.i64.wrap ((n : Int) - 1 - k) = (j : Int) := by rw [IntKind.wrap_i64]; omega
      have e3 : IntKind.i64.wrap ((n : Int) - k) = (j : Int) + 1 := by rw [IntKind.wrap_i64]; omega
      have e4 : IntKind.i64.wrap ((k : Int) + 1) = (k : Int) + 1 := by rw [IntKind.wrap_i64]; omega
      have hj1 : (j : Int) < n := by omega
      have HJ := hideP hj
      have hlt' : (k : Int) < n := by omega
      clear hj hc
      by_cases hv : f j = 0
      · have hb : ((f j : Int) == 0) = true := by simp [hv]
        have HV := hideP hv
        clear hv
        go_wp2_with fail
        go_round
        case rel =>
          refine ⟨k + 1, by omega, by go_num, fun i h1 h2 => ?_⟩
          have hj := HJ.out
          by_cases hi : i = j
          · rw [hi]; exact HV.out
          · exact HZ.out i (by omega) h2
        case measure => simp [intOf]; omega
      · have hb : ((f j : Int) == 0) = false := by simp; omega
        have HV := hideP hv
        clear hv
        go_wp2_with fail
        go_ret
        have hj := HJ.out
        exact ⟨⟨j + 1, by simp, by omega, fun i h1 h2 => HZ.out i (by omega) h2, fun _ => by simpa using HV.out⟩, rfl⟩
    · have hlt' : ¬ ((k : Int) < n) := by omega
      have hkn : k = n := by omega
      subst hkn
      clear hc hlt' hk
      go_wp2_with fail
      go_ret
      exact ⟨⟨0, rfl, Nat.zero_le _, fun i h1 h2 => HZ.out i (by omega) h2, fun h => by omega⟩, rfl⟩

end Go.Proofs.Ytpnijncoldihfaa
