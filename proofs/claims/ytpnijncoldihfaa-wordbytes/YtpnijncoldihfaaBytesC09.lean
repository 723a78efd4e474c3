/-
  How a division of two limbs by one is set up.
-/
import Derived.Test.YtpnijncoldihfaaBytesC08
namespace Go.Proofs.Ytpnijncoldihfaa
open Go.RowKit Go.Shelf

theorem bitLen_pos {x : Nat} (h : 0 < x) (hx : x < 18446744073709551616) : 1 ≤ Lib.bitLen x ∧ Lib.bitLen x ≤ 64 := by
  refine ⟨?_, Lib.bitLen_le x 64 (by omega) (by simpa using hx)⟩
  have := Lib.bitLen_half x (by omega) (by simpa using hx)
  omega

theorem bitLen_upper : ∀ (k x : Nat), x < 2 ^ 64 → Lib.bitLen x ≤ k → x < 2 ^ k
  | 0, x, hx, h => by
    rcases Nat.eq_zero_or_pos x with rfl | h0
    · simp
    · have := Lib.bitLen_half x (by omega) hx; omega
  | k + 1, x, hx, h => by
    rcases Nat.eq_zero_or_pos x with rfl | h0
    · exact Nat.two_pow_pos _
    · have h1 := Lib.bitLen_half x (by omega) hx
      have h2 := bitLen_upper k (x / 2) (by omega) (by omega)
      rw [Nat.pow_succ]; omega

theorem bitLen_lower {x k : Nat} (hk : k ≤ 64) (h : k < Lib.bitLen x) : 2 ^ k ≤ x := by
  apply Nat.le_of_not_lt
  intro hc
  have := Lib.bitLen_le x k hk hc
  omega

set_option maxHeartbeats 400000 in
set_option maxRecDepth 100000 in
theorem lz64_any (x : Nat) (w : World) (h : x < 18446744073709551616) :
    Calls Try.prog 128 #[.int .u64 x] w fun e w' => e = .returned (.int .i64 ((64 - Lib.bitLen x : Nat) : Int)) ∧ w = w' := by
  have hc := fun w => len64_any x w h
  have hl := Lib.bitLen_le x 64 (by omega) (by simpa using h)
  generalize Lib.bitLen x = b at hc hl ⊢
  have s : IntKind.i64.wrap (64 - (b : Int)) = ((64 - b : Nat) : Int) := by rw [show (64 : Int) - b = ((64 - b : Nat) : Int) by omega]; rw [IntKind.wrap_i64]; omega
  go_enter Try.func128, Try.ntmps128
  go_wp2_with (go_at_call 112; refine (hc _).mono ?_; rintro e w' ⟨rfl, rfl⟩)
  go_ret
  exact ⟨rfl, rfl⟩

end Go.Proofs.Ytpnijncoldihfaa

namespace Go.Proofs.Ytpnijncoldihfaa
open Go.RowKit Go.Shelf

theorem u64_wrap_nat (a : Nat) (h : a < 18446744073709551616) : IntKind.u64.wrap (a : Int) = (a : Int) := by rw [IntKind.wrap_u64]; omega

structure DSet (hi lo y s V y1 y0 u L u1 u0 : Nat) : Prop where
  hs : s < 64
  hV : V = y * 2 ^ s
  hV1 : V < 18446744073709551616
  hV2 : V = y1 * 4294967296 + y0
  hy0 : y0 < 4294967296
  hy1 : y1 < 4294967296
  hy1' : 2147483648 ≤ y1
  hu : u < V
  hL : L < 18446744073709551616
  hL2 : L = u1 * 4294967296 + u0
  hu1 : u1 < 4294967296
  hu0 : u0 < 4294967296
  hN : u * 18446744073709551616 + L = (hi * 18446744073709551616 + lo) * 2 ^ s
  eV : IntKind.u64.wrap ((y : Int) * 2 ^ min (IntKind.u64.wrap (s : Int)).toNat 64) = (V : Int)
  eY1 : (V : Int) / 4294967296 = (y1 : Int)
  eY0 : bits .and .u64 (V : Int) 4294967295 = (y0 : Int)
  eU : bits .or .u64 (IntKind.u64.wrap ((hi : Int) * 2 ^ min (IntKind.u64.wrap (s : Int)).toNat 64)) ((lo : Int) / 2 ^ min (IntKind.u64.wrap (64 - IntKind.u64.wrap (s : Int))).toNat 64) = (u : Int)
  eL : IntKind.u64.wrap ((lo : Int) * 2 ^ min (IntKind.u64.wrap (s : Int)).toNat 64) = (L : Int)
  eL1 : (L : Int) / 4294967296 = (u1 : Int)
  eL0 : bits .and .u64 (L : Int) 4294967295 = (u0 : Int)

theorem dset (hi lo y s : Nat) (h1 : hi < y) (hy : y < 18446744073709551616) (hlo : lo < 18446744073709551616) (hs : s = 64 - Lib.bitLen y) :
    ∃ V y1 y0 u L u1 u0, DSet hi lo y s V y1 y0 u L u1 u0 := by
  have hb := bitLen_pos (x := y) (by omega) hy
  have hs64 : s < 64 := by omega
  have hup := bitLen_upper (Lib.bitLen y) y (by simpa using hy) (Nat.le_refl _)
  have hlow := bitLen_lower (x := y) (k := Lib.bitLen y - 1) (by omega) (by omega)
  have hV1 : y * 2 ^ s < 18446744073709551616 := by
    have : y * 2 ^ s < 2 ^ Lib.bitLen y * 2 ^ s := Nat.mul_lt_mul_of_pos_right hup (Nat.two_pow_pos s)
    rw [← Nat.pow_add, show Lib.bitLen y + s = 64 by omega] at this
    simpa using this
  have hV0 : 9223372036854775808 ≤ y * 2 ^ s := by
    have : 2 ^ (Lib.bitLen y - 1) * 2 ^ s ≤ y * 2 ^ s := Nat.mul_le_mul_right _ hlow
    rw [← Nat.pow_add, show Lib.bitLen y - 1 + s = 63 by omega] at this
    simpa using this
  have hw : IntKind.u64.wrap (s : Int) = (s : Int) := u64_wrap_nat s (by omega)
  have hm : min ((s : Int).toNat) 64 = s := by simp; omega
  have hw2 : IntKind.u64.wrap (64 - (s : Int)) = ((64 - s : Nat) : Int) := by
    rw [show (64 : Int) - s = ((64 - s : Nat) : Int) by omega]
    exact u64_wrap_nat _ (by omega)
  have hm2 : min (((64 - s : Nat) : Int).toNat) 64 = 64 - s := by simp
  have hu := D64.raise_lt hi lo y s (by omega) h1 (by simpa using hlo)
  have hN := D64.raise_eq hi lo s (by omega)
  have hhi : hi * 2 ^ s < 18446744073709551616 := Nat.lt_of_le_of_lt (Nat.le_add_right _ _) (Nat.lt_trans hu hV1)
  have hlq : lo / 2 ^ (64 - s) < 18446744073709551616 := Nat.lt_of_le_of_lt (Nat.div_le_self _ _) hlo
  have hlq2 : lo / 2 ^ (64 - s) < 2 ^ s := by
    rw [Nat.div_lt_iff_lt_mul (Nat.two_pow_pos _), ← Nat.pow_add, show s + (64 - s) = 64 by omega]
    simpa using hlo
  have hL : lo * 2 ^ s % 18446744073709551616 < 18446744073709551616 := Nat.mod_lt _ (by decide)
  refine ⟨y * 2 ^ s, y * 2 ^ s / 4294967296, y * 2 ^ s % 4294967296, hi * 2 ^ s + lo / 2 ^ (64 - s), lo * 2 ^ s % 18446744073709551616, lo * 2 ^ s % 18446744073709551616 / 4294967296, lo * 2 ^ s % 18446744073709551616 % 4294967296, ?_⟩
  refine ⟨hs64, rfl, hV1, by omega, by omega, by omega, by omega, hu, hL, by omega, by omega, by omega, ?_, ?_, ?_, ?_, ?_, ?_, ?_, ?_⟩
  · simpa using hN
  · rw [hw, hm, show ((y : Int) * 2 ^ s) = ((y * 2 ^ s : Nat) : Int) by simp]
    exact u64_wrap_nat _ hV1
  · omega
  · exact M64.maskN _ hV1
  · rw [hw, hm, hw2, hm2, show ((hi : Int) * 2 ^ s) = ((hi * 2 ^ s : Nat) : Int) by simp, u64_wrap_nat _ hhi, show ((lo : Int) / 2 ^ (64 - s)) = ((lo / 2 ^ (64 - s) : Nat) : Int) by simp, bits_or_u64_nat _ _ hhi hlq]
    congr 1
    rw [← Nat.shiftLeft_eq, Nat.shiftLeft_add_eq_or_of_lt hlq2]
  · rw [hw, hm, show ((lo : Int) * 2 ^ s) = ((lo * 2 ^ s : Nat) : Int) by simp, IntKind.wrap_u64]
    omega
  · omega
  · exact M64.maskN _ hL

end Go.Proofs.Ytpnijncoldihfaa
