/-
  The document's half: a product of two words.
-/
import Derived.Test.YtiekipkmfopdoaaEnds
namespace Go.Proofs.Ytiekipkmfopdoaa
open Go.RowKit Go.Shelf

theorem half_num (a b : Nat) :
    a % 4294967296 * (b % 4294967296) % 4294967296 + (a % 4294967296 * (b % 4294967296) / 4294967296 + a % 4294967296 * (b / 4294967296) % 4294967296 + a / 4294967296 * (b % 4294967296) % 4294967296) % 4294967296 * 4294967296 +
      18446744073709551616 * (a / 4294967296 * (b / 4294967296) + a % 4294967296 * (b / 4294967296) / 4294967296 + a / 4294967296 * (b % 4294967296) / 4294967296 + (a % 4294967296 * (b % 4294967296) / 4294967296 + a % 4294967296 * (b / 4294967296) % 4294967296 + a / 4294967296 * (b % 4294967296) % 4294967296) / 4294967296) = a * b := by
  have e : a * b = 18446744073709551616 * (a / 4294967296 * (b / 4294967296)) + 4294967296 * (a % 4294967296 * (b / 4294967296)) + 4294967296 * (a / 4294967296 * (b % 4294967296)) + a % 4294967296 * (b % 4294967296) := by
    conv => lhs; rw [← Nat.div_add_mod a 4294967296, ← Nat.div_add_mod b 4294967296]
    generalize a / 4294967296 = p
    generalize a % 4294967296 = q
    generalize b / 4294967296 = r
    generalize b % 4294967296 = s
    grind
  rw [e]
  generalize a / 4294967296 * (b / 4294967296) = p
  generalize a % 4294967296 * (b / 4294967296) = q
  generalize a / 4294967296 * (b % 4294967296) = r
  generalize a % 4294967296 * (b % 4294967296) = s
  omega

theorem or_half (x m : Nat) (hx : x < 4294967296) : bits .or .u64 (x : Int) ((m * 4294967296 % 18446744073709551616 : Nat) : Int) = ((x + m % 4294967296 * 4294967296 : Nat) : Int) := by
  have h := bits_or_u64_nat x (m * 4294967296 % 18446744073709551616) (by omega) (by omega)
  have e0 : m * 4294967296 % 18446744073709551616 = 2 ^ 32 * (m % 4294967296) := by omega
  have e : x ||| m * 4294967296 % 18446744073709551616 = x + m % 4294967296 * 4294967296 := by
    rw [e0, Nat.or_comm, ← Nat.two_pow_add_eq_or_of_lt (show x < 2 ^ 32 by omega)]
    omega
  rw [h, e]

set_option maxHeartbeats 1000000 in
set_option maxRecDepth 100000 in
theorem half_any (a b : Nat) (ha : a < 18446744073709551616) (hb : b < 18446744073709551616) (w : World) :
    Calls Try.prog 110 #[.int .u64 a, .int .u64 b] w fun e w' => (∃ h l : Nat, e = .returned (.tuple #[.int .u64 h, .int .u64 l]) ∧ h < 18446744073709551616 ∧ l < 18446744073709551616 ∧ a * b = l + 18446744073709551616 * h) ∧ w = w' := by
  have hnum := half_num a b
  have hle := prod_le ha hb
  have p1 := Lib.half_mul_le (a := a % 4294967296) (b := b % 4294967296) (by omega) (by omega)
  have p2 := Lib.half_mul_le (a := a % 4294967296) (b := b / 4294967296) (by omega) (by omega)
  have p3 := Lib.half_mul_le (a := a / 4294967296) (b := b % 4294967296) (by omega) (by omega)
  have p4 := Lib.half_mul_le (a := a / 4294967296) (b := b / 4294967296) (by omega) (by omega)
  have m1 := M64.maskN a ha
  have m2 := M64.maskN b hb
  have s1 := M64.divN a
  have s2 := M64.divN b
  have w1 : IntKind.u64.wrap (((a % 4294967296 : Nat) : Int) * ((b % 4294967296 : Nat) : Int)) = ((a % 4294967296 * (b % 4294967296) : Nat) : Int) := by rw [M64.mulN, M64.wrapN _ (by omega)]
  have w2 : IntKind.u64.wrap (((a % 4294967296 : Nat) : Int) * ((b / 4294967296 : Nat) : Int)) = ((a % 4294967296 * (b / 4294967296) : Nat) : Int) := by rw [M64.mulN, M64.wrapN _ (by omega)]
  have w3 : IntKind.u64.wrap (((a / 4294967296 : Nat) : Int) * ((b % 4294967296 : Nat) : Int)) = ((a / 4294967296 * (b % 4294967296) : Nat) : Int) := by rw [M64.mulN, M64.wrapN _ (by omega)]
  have w4 : IntKind.u64.wrap (((a / 4294967296 : Nat) : Int) * ((b / 4294967296 : Nat) : Int)) = ((a / 4294967296 * (b / 4294967296) : Nat) : Int) := by rw [M64.mulN, M64.wrapN _ (by omega)]
  generalize a * b = AB at *
  generalize a % 4294967296 * (b % 4294967296) = x at *
  generalize a % 4294967296 * (b / 4294967296) = y at *
  generalize a / 4294967296 * (b % 4294967296) = z at *
  generalize a / 4294967296 * (b / 4294967296) = v at *
  generalize a % 4294967296 = al at *
  generalize a / 4294967296 = ah at *
  generalize b % 4294967296 = bl at *
  generalize b / 4294967296 = bh at *
  have t1 := M64.divN x
  have t2 := M64.maskN y (by omega)
  have t3 := M64.maskN z (by omega)
  have t4 := M64.divN y
  have t5 := M64.divN z
  have t6 := M64.maskN x (by omega)
  have u1 : IntKind.u64.wrap (((x / 4294967296 : Nat) : Int) + ((y % 4294967296 : Nat) : Int)) = ((x / 4294967296 + y % 4294967296 : Nat) : Int) := by rw [M64.addN, M64.wrapN _ (by omega)]
  have u2 : IntKind.u64.wrap (((x / 4294967296 + y % 4294967296 : Nat) : Int) + ((z % 4294967296 : Nat) : Int)) = ((x / 4294967296 + y % 4294967296 + z % 4294967296 : Nat) : Int) := by rw [M64.addN, M64.wrapN _ (by omega)]
  have u3 : IntKind.u64.wrap ((v : Int) + ((y / 4294967296 : Nat) : Int)) = ((v + y / 4294967296 : Nat) : Int) := by rw [M64.addN, M64.wrapN _ (by omega)]
  have u4 : IntKind.u64.wrap (((v + y / 4294967296 : Nat) : Int) + ((z / 4294967296 : Nat) : Int)) = ((v + y / 4294967296 + z / 4294967296 : Nat) : Int) := by rw [M64.addN, M64.wrapN _ (by omega)]
  have u5 : IntKind.u64.wrap (((v + y / 4294967296 + z / 4294967296 : Nat) : Int) + (((x / 4294967296 + y % 4294967296 + z % 4294967296) / 4294967296 : Nat) : Int)) = ((v + y / 4294967296 + z / 4294967296 + (x / 4294967296 + y % 4294967296 + z % 4294967296) / 4294967296 : Nat) : Int) := by rw [M64.addN, M64.wrapN _ (by omega)]
  have u6 := M64.divN (x / 4294967296 + y % 4294967296 + z % 4294967296)
  have u7 : IntKind.u64.wrap (((x / 4294967296 + y % 4294967296 + z % 4294967296 : Nat) : Int) * 4294967296) = (((x / 4294967296 + y % 4294967296 + z % 4294967296) * 4294967296 % 18446744073709551616 : Nat) : Int) := by rw [IntKind.wrap_u64]; omega
  have HO := hideP (or_half (x % 4294967296) (x / 4294967296 + y % 4294967296 + z % 4294967296) (by omega))
  have HH : Hid (v + y / 4294967296 + z / 4294967296 + (x / 4294967296 + y % 4294967296 + z % 4294967296) / 4294967296 < 18446744073709551616 ∧ x % 4294967296 + (x / 4294967296 + y % 4294967296 + z % 4294967296) % 4294967296 * 4294967296 < 18446744073709551616 ∧ AB = x % 4294967296 + (x / 4294967296 + y % 4294967296 + z % 4294967296) % 4294967296 * 4294967296 + 18446744073709551616 * (v + y / 4294967296 + z / 4294967296 + (x / 4294967296 + y % 4294967296 + z % 4294967296) / 4294967296)) := ⟨by omega, by omega, by omega⟩
  clear hnum hle p1 p2 p3 p4 ha hb
  generalize v + y / 4294967296 + z / 4294967296 + (x / 4294967296 + y % 4294967296 + z % 4294967296) / 4294967296 = hi at *
  generalize (x / 4294967296 + y % 4294967296 + z % 4294967296) * 4294967296 % 18446744073709551616 = ms at *
  generalize x % 4294967296 + (x / 4294967296 + y % 4294967296 + z % 4294967296) % 4294967296 * 4294967296 = lo at *
  generalize v + y / 4294967296 + z / 4294967296 = vz at *
  generalize v + y / 4294967296 = vy at *
  generalize (x / 4294967296 + y % 4294967296 + z % 4294967296) / 4294967296 = mh at *
  generalize x / 4294967296 + y % 4294967296 + z % 4294967296 = md at *
  generalize x / 4294967296 + y % 4294967296 = xy at *
  generalize x / 4294967296 = xh at *
  generalize y / 4294967296 = yh at *
  generalize z / 4294967296 = zh at *
  generalize x % 4294967296 = xl at *
  generalize y % 4294967296 = yl at *
  generalize z % 4294967296 = zl at *
  go_enter Try.func110, Try.ntmps110
  go_wp2
  go_ret2
  rw [HO.out]
  exact ⟨⟨hi, lo, rfl, HH.out⟩, rfl⟩

end Go.Proofs.Ytiekipkmfopdoaa
