/-
  Numbers of eight limbs.
-/
import Derived.Test.YtpnijncoldihfaaMulNum
namespace Go.Proofs.Ytpnijncoldihfaa
open Go.RowKit Go.Shelf

/-- A limb of a number. -/
def limb (N k : Nat) : Nat := N / 18446744073709551616 ^ k % 18446744073709551616

theorem limb_lt (N k : Nat) : limb N k < 18446744073709551616 := Nat.mod_lt _ (by decide)

theorem limb_succ (N k : Nat) : limb N (k + 1) = limb (N / 18446744073709551616) k := by
  unfold limb
  rw [Nat.pow_succ, Nat.mul_comm, Nat.div_div_eq_div_mul]

theorem limb_zero_of {a r : Nat} (h : a < 18446744073709551616) : limb (a + 18446744073709551616 * r) 0 = a := by
  unfold limb
  rw [Nat.pow_zero, Nat.div_one]
  exact (digit_of _ _ _ h).1

theorem limb_succ_of {a r k : Nat} (h : a < 18446744073709551616) : limb (a + 18446744073709551616 * r) (k + 1) = limb r k := by
  rw [limb_succ, (digit_of _ _ _ h).2]

/-- The value of a number of eight limbs. -/
def w8 (N : Nat) : Value := .agg #[.int .u64 (limb N 0), .int .u64 (limb N 1), .int .u64 (limb N 2), .int .u64 (limb N 3), .int .u64 (limb N 4), .int .u64 (limb N 5), .int .u64 (limb N 6), .int .u64 (limb N 7)]

theorem w8_mk {a b c d e f g h k : Nat} (ha : a < 18446744073709551616) (hb : b < 18446744073709551616) (hc : c < 18446744073709551616) (hd : d < 18446744073709551616) (he : e < 18446744073709551616) (hf : f < 18446744073709551616) (hg : g < 18446744073709551616) (hh : h < 18446744073709551616) {N : Nat}
    (hN : N = a + 18446744073709551616 * (b + 18446744073709551616 * (c + 18446744073709551616 * (d + 18446744073709551616 * (e + 18446744073709551616 * (f + 18446744073709551616 * (g + 18446744073709551616 * (h + 18446744073709551616 * k)))))))) :
    Value.agg #[.int .u64 a, .int .u64 b, .int .u64 c, .int .u64 d, .int .u64 e, .int .u64 f, .int .u64 g, .int .u64 h] = w8 N := by
  subst hN
  unfold w8
  simp only [limb_zero_of ha, limb_succ_of ha, limb_zero_of hb, limb_succ_of hb, limb_zero_of hc, limb_succ_of hc, limb_zero_of hd, limb_succ_of hd, limb_zero_of he, limb_succ_of he, limb_zero_of hf, limb_succ_of hf, limb_zero_of hg, limb_succ_of hg, limb_zero_of hh]

theorem wv_limb (X : Nat) : wv X = .agg #[.int .u64 (limb X 0), .int .u64 (limb X 1), .int .u64 (limb X 2), .int .u64 (limb X 3)] := by
  obtain ⟨x0, x1, x2, x3, k, h0, h1, h2, h3, e, hv⟩ := wv_open X
  rw [hv, e]
  simp only [limb_zero_of h0, limb_succ_of h0, limb_zero_of h1, limb_succ_of h1, limb_zero_of h2, limb_succ_of h2, limb_zero_of h3]

end Go.Proofs.Ytpnijncoldihfaa
