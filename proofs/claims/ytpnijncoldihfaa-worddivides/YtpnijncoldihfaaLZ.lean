import Derived.Test.YtpnijncoldihfaaDivNum
namespace Go.Proofs.Ytpnijncoldihfaa
open Go.RowKit Go.Shelf

theorem bitLen_pos {x : Nat} (h : 0 < x) (hx : x < 18446744073709551616) : 1 ≤ Lib.bitLen x ∧ Lib.bitLen x ≤ 64 := by
  refine ⟨?_, Lib.bitLen_le x 64 (by omega) (by simpa using hx)⟩
  have := Lib.bitLen_half x (by omega) (by simpa using hx)
  omega

theorem bitLen_upper : ∀ (k x : Nat), x < 2 ^ 64 → Lib.bitLen x ≤ k → x < 2 ^ k
  | 0, x, hx, h => by
    rcases Nat.eq_zero_or_pos x with rfl | h0
    · simp
    · have := Lib.bitLen_half x (by omega) hx; omega
  | k + 1, x, hx, h => by
    rcases Nat.eq_zero_or_pos x with rfl | h0
    · exact Nat.two_pow_pos _
    · have h1 := Lib.bitLen_half x (by omega) hx
      have h2 := bitLen_upper k (x / 2) (by omega) (by omega)
      rw [Nat.pow_succ]; omega

theorem bitLen_lower {x k : Nat} (hk : k ≤ 64) (h : k < Lib.bitLen x) : 2 ^ k ≤ x := by
  apply Nat.le_of_not_lt
  intro hc
  have := Lib.bitLen_le x k hk hc
  omega

set_option maxHeartbeats 400000 in
set_option maxRecDepth 100000 in
theorem lz64_any (x : Nat) (w : World) (h : x < 18446744073709551616) :
    Calls Try.prog 128 #[.int .u64 x] w fun e w' => e = .returned (.int .i64 ((64 - Lib.bitLen x : Nat) : Int)) ∧ w = w' := by
  have hc := fun w => len64_any x w h
  have hl := Lib.bitLen_le x 64 (by omega) (by simpa using h)
  generalize Lib.bitLen x = b at hc hl ⊢
  have s : IntKind.i64.wrap (64 - (b : Int)) = ((64 - b : Nat) : Int) := by rw [show (64 : Int) - b = ((64 - b : Nat) : Int) by omega]; rw [IntKind.wrap_i64]; omega
  go_enter Try.func128, Try.ntmps128
  go_wp2_with (go_at_call 112; refine (hc _).mono ?_; rintro e w' ⟨rfl, rfl⟩)
  go_ret
  exact ⟨rfl, rfl⟩

end Go.Proofs.Ytpnijncoldihfaa
