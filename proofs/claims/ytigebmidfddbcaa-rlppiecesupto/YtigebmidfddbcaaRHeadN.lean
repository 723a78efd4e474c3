/-
  Numbers of bytes, the highest first.
-/
import Derived.Test.YtigebmidfddbcaaRefW
import Derived.Test.YtigebmidfddbcaaBackN
namespace Go.Proofs.Ytigebmidfddbcaa
open Go.RowKit Go.Shelf

theorem rdv_dv (bs : Nat → Nat) (n : Nat) : ∀ k, k ≤ n → rdv (fun j => bs (1 + j)) n k + dv bs (n - k) * 256 ^ k = dv bs n
  | 0, _ => by simp [rdv]
  | k + 1, h => by
    have ih := rdv_dv bs n k (by omega)
    have e : n - k = (n - (k + 1)) + 1 := by omega
    rw [e, dv] at ih
    rw [← ih, rdv]
    have e2 : 256 ^ (k + 1) = 256 ^ k * 256 := Nat.pow_succ ..
    rw [e2]
    have e3 : 1 + (n - 1 - k) = n - (k + 1) + 1 := by omega
    rw [e3, ← pow256, Nat.add_mul, Nat.mul_comm (256 ^ k) 256, Nat.mul_assoc]
    omega

theorem rdv_all (bs : Nat → Nat) (n : Nat) : rdv (fun j => bs (1 + j)) n n = dv bs n := by
  have := rdv_dv bs n n (Nat.le_refl _)
  rw [Nat.sub_self] at this
  simpa [dv] using this

theorem wv_low {X : Nat} (h : X < 18446744073709551616) : wv X = .agg #[.int .u64 X, .int .u64 0, .int .u64 0, .int .u64 0] := by
  unfold wv
  rw [Nat.mod_eq_of_lt h, Nat.div_eq_of_lt h, Nat.div_eq_of_lt (show X < 340282366920938463463374607431768211456 by omega), Nat.div_eq_of_lt (show X < 6277101735386680763835789423207666416102355444464034512896 by omega)]
  rfl

end Go.Proofs.Ytigebmidfddbcaa
