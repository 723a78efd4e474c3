/-
  How many bits a limb has.
-/
import Derived.Lib.Strings
import Derived.Lib.Slices
import Derived.Lib.Small
import Derived.Lib.Walk
import Derived.Lib.BitFns
import Derived.Test.YtigebmidfddbcaaRlpMeansC04
namespace Go.Proofs.Ytigebmidfddbcaa
open Go.RowKit

set_option maxRecDepth 100000 in
theorem tab_size : (Lib.len8tab.size : Int) = 256 := by
  have : Lib.len8tab.size = 256 := by decide
  omega

theorem wrap_sum (k a b : Nat) (hk : k ≤ 56) (ha : a ≤ 8) (hb : b = k + a) : RowKit.wrap64 ((k : Int) + RowKit.wrap64 (a : Int)) = (b : Int) := by
  unfold RowKit.wrap64
  omega

theorem wrap_twice (a : Nat) (ha : a ≤ 8) : RowKit.wrap64 (RowKit.wrap64 (a : Int)) = (a : Int) := by
  unfold RowKit.wrap64
  omega

theorem tab_get (y : Int) (h : y.toNat < Lib.len8tab.size) : ((Lib.len8tab[y.toNat]'h).toNat : Int) = Lib.len8 y := by
  unfold Lib.len8
  rw [getElem?_pos Lib.len8tab y.toNat h]
  rfl

set_option maxHeartbeats 8000000 in
set_option maxRecDepth 1000000 in
theorem len64_int (x : Int) (w : World) (h0 : 0 ≤ x) (h1 : x ≤ 18446744073709551615) :
    Calls Try.prog 84 #[.int .u64 x] w fun e w' => e = .returned (.int .i64 (Lib.bitLen x.toNat)) ∧ w = w' := by
  go_enter Try.func84, Try.ntmps84
  go_wp2
  all_goals first
    | (go_ret; refine ⟨congrArg Ending.returned (congrArg (Value.int IntKind.i64) ?_), rfl⟩)
    | (exfalso
       have hs := tab_size
       omega)
  all_goals first
    | (rw [tab_get (x / 4294967296 / 65536 / 256) _, Lib.len8_of (x / 4294967296 / 65536 / 256) (by omega) (by omega)]
       have e : (x / 4294967296 / 65536 / 256).toNat = x.toNat / 72057594037927936 := by omega
       have l := Lib.bitLen_le8' (x / 4294967296 / 65536 / 256) (by omega) (by omega)
       have s := Lib.bitLen_shift56 x.toNat (by omega) (by omega)
       rw [e] at l ⊢
       exact wrap_sum 56 _ _ (by decide) l s)
    | (rw [tab_get (x / 4294967296 / 65536) _, Lib.len8_of (x / 4294967296 / 65536) (by omega) (by omega)]
       have e : (x / 4294967296 / 65536).toNat = x.toNat / 281474976710656 := by omega
       have l := Lib.bitLen_le8' (x / 4294967296 / 65536) (by omega) (by omega)
       have s := Lib.bitLen_shift48 x.toNat (by omega) (by omega)
       rw [e] at l ⊢
       exact wrap_sum 48 _ _ (by decide) l s)
    | (rw [tab_get (x / 4294967296 / 256) _, Lib.len8_of (x / 4294967296 / 256) (by omega) (by omega)]
       have e : (x / 4294967296 / 256).toNat = x.toNat / 1099511627776 := by omega
       have l := Lib.bitLen_le8' (x / 4294967296 / 256) (by omega) (by omega)
       have s := Lib.bitLen_shift40 x.toNat (by omega) (by omega)
       rw [e] at l ⊢
       exact wrap_sum 40 _ _ (by decide) l s)
    | (rw [tab_get (x / 4294967296) _, Lib.len8_of (x / 4294967296) (by omega) (by omega)]
       have e : (x / 4294967296).toNat = x.toNat / 4294967296 := by omega
       have l := Lib.bitLen_le8' (x / 4294967296) (by omega) (by omega)
       have s := Lib.bitLen_shift32 x.toNat (by omega) (by omega)
       rw [e] at l ⊢
       exact wrap_sum 32 _ _ (by decide) l s)
    | (rw [tab_get (x / 65536 / 256) _, Lib.len8_of (x / 65536 / 256) (by omega) (by omega)]
       have e : (x / 65536 / 256).toNat = x.toNat / 16777216 := by omega
       have l := Lib.bitLen_le8' (x / 65536 / 256) (by omega) (by omega)
       have s := Lib.bitLen_shift24 x.toNat (by omega) (by omega)
       rw [e] at l ⊢
       exact wrap_sum 24 _ _ (by decide) l s)
    | (rw [tab_get (x / 65536) _, Lib.len8_of (x / 65536) (by omega) (by omega)]
       have e : (x / 65536).toNat = x.toNat / 65536 := by omega
       have l := Lib.bitLen_le8' (x / 65536) (by omega) (by omega)
       have s := Lib.bitLen_shift16 x.toNat (by omega) (by omega)
       rw [e] at l ⊢
       exact wrap_sum 16 _ _ (by decide) l s)
    | (rw [tab_get (x / 256) _, Lib.len8_of (x / 256) (by omega) (by omega)]
       have e : (x / 256).toNat = x.toNat / 256 := by omega
       have l := Lib.bitLen_le8' (x / 256) (by omega) (by omega)
       have s := Lib.bitLen_shift8 x.toNat (by omega) (by omega)
       rw [e] at l ⊢
       exact wrap_sum 8 _ _ (by decide) l s)
    | (rw [tab_get x _, Lib.len8_of x (by omega) (by omega)]
       exact wrap_twice _ (Lib.bitLen_le8' x (by omega) (by omega)))

theorem len64_any (x : Nat) (w : World) (h : x < 18446744073709551616) :
    Calls Try.prog 84 #[.int .u64 x] w fun e w' => e = .returned (.int .i64 (Lib.bitLen x)) ∧ w = w' := by
  have := len64_int x w (by omega) (by omega)
  simpa using this

theorem bitLen_pos {x : Nat} (h : 0 < x) (hx : x < 18446744073709551616) : 1 ≤ Lib.bitLen x ∧ Lib.bitLen x ≤ 64 := by
  refine ⟨?_, Lib.bitLen_le x 64 (by omega) (by simpa using hx)⟩
  have := Lib.bitLen_half x (by omega) (by simpa using hx)
  omega

theorem bitLen_upper : ∀ (k x : Nat), x < 2 ^ 64 → Lib.bitLen x ≤ k → x < 2 ^ k
  | 0, x, hx, h => by
    rcases Nat.eq_zero_or_pos x with rfl | h0
    · simp
    · have := Lib.bitLen_half x (by omega) hx; omega
  | k + 1, x, hx, h => by
    rcases Nat.eq_zero_or_pos x with rfl | h0
    · exact Nat.two_pow_pos _
    · have h1 := Lib.bitLen_half x (by omega) hx
      have h2 := bitLen_upper k (x / 2) (by omega) (by omega)
      rw [Nat.pow_succ]; omega

theorem bitLen_lower {x k : Nat} (hk : k ≤ 64) (h : k < Lib.bitLen x) : 2 ^ k ≤ x := by
  apply Nat.le_of_not_lt
  intro hc
  have := Lib.bitLen_le x k hk hc
  omega

set_option maxHeartbeats 400000 in
set_option maxRecDepth 100000 in

theorem bitLen_le64 {x : Nat} (h : x < 18446744073709551616) : Lib.bitLen x ≤ 64 := by
  by_cases h0 : x = 0
  · subst h0; decide
  · exact (bitLen_pos (by omega) h).2

set_option maxHeartbeats 1000000 in
set_option maxRecDepth 100000 in
theorem len_any (n : Nat) (hn : n < 18446744073709551616) (w : World) : Calls Try.prog 82 #[.int .u64 n] w fun e w' => e = .returned (.int .i64 (Lib.bitLen n)) ∧ w = w' := by
  have h := fun W => len64_int (n : Int) W (by omega) (by omega)
  have e : ((n : Int)).toNat = n := by omega
  rw [e] at h
  have H := hideP h
  clear h e
  go_enter Try.func82, Try.ntmps82
  go_wp2_with fail
  refine (H.out _).mono ?_
  rintro e w' ⟨rfl, rfl⟩
  go_wp2_with fail
  go_ret
  exact ⟨rfl, rfl⟩

/-- How many bytes stand ahead of a payload. -/
def hsz (n : Nat) : Nat := if n ≤ 55 then 1 else 1 + (Lib.bitLen n + 7) / 8

theorem hsz_le {n : Nat} (h : n < 18446744073709551616) : 1 ≤ hsz n ∧ hsz n ≤ 9 := by
  unfold hsz
  have := bitLen_le64 h
  split <;> omega

set_option maxHeartbeats 1000000 in
set_option maxRecDepth 100000 in
theorem headSize_any (n : Nat) (hn : n ≤ 9223372036854775807) (w : World) : Calls Try.prog 73 #[.int .i64 n] w fun e w' => e = .returned (.int .i64 (hsz n)) ∧ w = w' := by
  by_cases h : n ≤ 55
  · have HR : Hid (hsz n = 1) := if_pos h
    have g : (n : Int) ≤ 55 := by omega
    clear h
    go_enter Try.func73, Try.ntmps73
    go_wp2_with fail
    go_ret
    exact ⟨by rw [HR.out] <;> rfl, rfl⟩
  · have HR : Hid (hsz n = 1 + (Lib.bitLen n + 7) / 8) := if_neg h
    have g : ¬ (n : Int) ≤ 55 := by omega
    have hl := bitLen_le64 (x := n) (by omega)
    have e0 : IntKind.u64.wrap ((n : Nat) : Int) = ((n : Nat) : Int) := by rw [IntKind.wrap_u64]; omega
    have e1 : IntKind.i64.wrap ((Lib.bitLen n : Int) + 7) = (Lib.bitLen n : Int) + 7 := by rw [IntKind.wrap_i64]; omega
    have e2 : ((Lib.bitLen n : Int) + 7).tdiv 8 = (((Lib.bitLen n + 7) / 8 : Nat) : Int) := by rw [Int.tdiv_eq_ediv_of_nonneg (by omega)]; omega
    have e3 : IntKind.i64.wrap (((Lib.bitLen n + 7) / 8 : Nat) : Int) = (((Lib.bitLen n + 7) / 8 : Nat) : Int) := by rw [IntKind.wrap_i64]; omega
    have e4 : IntKind.i64.wrap (1 + (((Lib.bitLen n + 7) / 8 : Nat) : Int)) = ((1 + (Lib.bitLen n + 7) / 8 : Nat) : Int) := by rw [IntKind.wrap_i64]; omega
    have cl := fun W => len_any n (by omega) W
    have CL := hideP cl
    clear cl h hl hn
    generalize 1 + (Lib.bitLen n + 7) / 8 = r at *
    generalize (Lib.bitLen n + 7) / 8 = q at *
    generalize Lib.bitLen n = bl at *
    go_enter Try.func73, Try.ntmps73
    go_wp2_with fail
    refine (CL.out _).mono ?_
    rintro e w' ⟨rfl, rfl⟩
    go_wp2_with fail
    go_ret
    exact ⟨by rw [HR.out]; rfl, rfl⟩

end Go.Proofs.Ytigebmidfddbcaa
