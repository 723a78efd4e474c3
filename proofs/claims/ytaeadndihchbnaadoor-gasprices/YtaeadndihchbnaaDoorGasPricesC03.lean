/-
  Words and memory, by numbers; prices of numbers.
-/
import Derived.Scope
import Derived.Test.YtaeadndihchbnaaDoorGasPricesC02
namespace Go.Proofs.YtaeadndihchbnaaDoor
open Go.RowKit Go.Shelf

set_option maxHeartbeats 1000000 in
set_option maxRecDepth 100000 in
theorem words_any (n : Nat) (hn : n < 18446744073709551616) (w : World) : Calls Tryd.prog 18 #[.int .u64 n] w fun e w' => e = .returned (.int .u64 (wds n)) ∧ w' = w := by
  have e1 : IntKind.u64.wrap ((n : Int) / 32) = ((n / 32 : Nat) : Int) := by rw [IntKind.wrap_u64]; omega
  have e5 : IntKind.u64.wrap ((n : Int) / 32 + 1) = (n : Int) / 32 + 1 := by rw [IntKind.wrap_u64]; omega
  rw [← wds_alt]
  by_cases h : n % 32 = 0
  · rw [if_pos h]
    have g : (n : Int) % 32 = 0 := by omega
    clear h hn
    go_enter Tryd.func18, Tryd.ntmps18
    go_wp2_with fail
    go_ret
    exact ⟨rfl, rfl⟩
  · rw [if_neg h]
    have g : ¬ (n : Int) % 32 = 0 := by omega
    have g' : (0 : Int) < (n : Int) % 32 := by omega
    clear h hn
    go_enter Tryd.func18, Tryd.ntmps18
    go_wp2_with fail
    go_ret
    exact ⟨rfl, rfl⟩

set_option maxHeartbeats 1000000 in
set_option maxRecDepth 100000 in
theorem rwords_any (n : Nat) (hn : n < 18446744073709551616) (w : World) : Calls Tryd.prog 19 #[.int .u64 n] w fun e w' => e = .returned (.int .u64 (wds n)) ∧ w' = w := by
  have e1 : IntKind.u64.wrap ((n : Int) / 32) = ((n / 32 : Nat) : Int) := by rw [IntKind.wrap_u64]; omega
  have e5 : IntKind.u64.wrap ((n : Int) / 32 + 1) = (n : Int) / 32 + 1 := by rw [IntKind.wrap_u64]; omega
  rw [← wds_alt]
  by_cases h : n % 32 = 0
  · rw [if_pos h]
    have g : (n : Int) % 32 = 0 := by omega
    clear h hn
    go_enter Tryd.func19, Tryd.ntmps19
    go_wp2_with fail
    go_ret
    exact ⟨rfl, rfl⟩
  · rw [if_neg h]
    have g : ¬ (n : Int) % 32 = 0 := by omega
    have g' : (0 : Int) < (n : Int) % 32 := by omega
    clear h hn
    go_enter Tryd.func19, Tryd.ntmps19
    go_wp2_with fail
    go_ret
    exact ⟨rfl, rfl⟩

theorem wds_le {s : Nat} (h : s ≤ 8388608) : wds s ≤ 262144 := by unfold wds; omega

theorem wds_sq {s : Nat} (h : s ≤ 8388608) : wds s * wds s ≤ 68719476736 := Nat.mul_le_mul (wds_le h) (wds_le h)

set_option maxHeartbeats 1000000 in
set_option maxRecDepth 100000 in
theorem memory_any (s : Nat) (hs : s < 18446744073709551616) (w : World) : Calls Tryd.prog 20 #[.int .u64 s] w fun e w' => e = .returned (.int .u64 (memN s)) ∧ w' = w := by
  have hc := words_any s hs w
  unfold memN
  by_cases h : 8388608 < s
  · rw [if_pos h]
    have g : (8388608 : Int) < (s : Int) := by omega
    clear h hs hc
    go_enter Tryd.func20, Tryd.ntmps20
    go_wp2_with fail
    go_ret
    exact ⟨rfl, rfl⟩
  · rw [if_neg h]
    have g : ¬ (8388608 : Int) < (s : Int) := by omega
    have h1 := wds_le (s := s) (by omega)
    have h2 := wds_sq (s := s) (by omega)
    generalize wds s = k at *
    have e1 : IntKind.u64.wrap (3 * (k : Int)) = ((3 * k : Nat) : Int) := by rw [IntKind.wrap_u64]; omega
    have e2 : IntKind.u64.wrap ((k : Int) * (k : Int)) = ((k * k : Nat) : Int) := by rw [← Int.natCast_mul, IntKind.wrap_u64]; omega
    generalize k * k = kk at *
    have e3 : IntKind.u64.wrap ((kk : Int) / 512) = ((kk / 512 : Nat) : Int) := by rw [IntKind.wrap_u64]; omega
    have e4 : IntKind.u64.wrap (3 * (k : Int) + (kk : Int) / 512) = 3 * (k : Int) + (kk : Int) / 512 := by rw [IntKind.wrap_u64]; omega
    clear h hs h1 h2
    have HC := hideP hc
    clear hc
    go_enter Tryd.func20, Tryd.ntmps20
    go_wp2_with fail
    refine HC.out.mono ?_
    rintro e w' ⟨rfl, rfl⟩
    go_wp2_with fail
    go_ret
    exact ⟨rfl, rfl⟩

/-- What init code and stored code cost. -/
def initN (n : Nat) : Nat := if 8388608 < n then 33554433 else 2 * wds n

def depositN (n : Nat) : Nat := if 8388608 < n then 33554433 else 200 * n

set_option maxHeartbeats 1000000 in
set_option maxRecDepth 100000 in
theorem init_any (s : Nat) (hs : s < 18446744073709551616) (w : World) : Calls Tryd.prog 34 #[.int .u64 s] w fun e w' => e = .returned (.int .u64 (initN s)) ∧ w' = w := by
  have hc := words_any s hs w
  unfold initN
  by_cases h : 8388608 < s
  · rw [if_pos h]
    have g : (8388608 : Int) < (s : Int) := by omega
    clear h hs hc
    go_enter Tryd.func34, Tryd.ntmps34
    go_wp2_with fail
    go_ret
    exact ⟨rfl, rfl⟩
  · rw [if_neg h]
    have g : ¬ (8388608 : Int) < (s : Int) := by omega
    have h1 := wds_le (s := s) (by omega)
    generalize wds s = k at *
    have e1 : IntKind.u64.wrap (2 * (k : Int)) = ((2 * k : Nat) : Int) := by rw [IntKind.wrap_u64]; omega
    clear h hs h1
    have HC := hideP hc
    clear hc
    go_enter Tryd.func34, Tryd.ntmps34
    go_wp2_with fail
    refine HC.out.mono ?_
    rintro e w' ⟨rfl, rfl⟩
    go_wp2_with fail
    go_ret
    exact ⟨rfl, rfl⟩

set_option maxHeartbeats 1000000 in
set_option maxRecDepth 100000 in
theorem rinit_any (s : Nat) (hs : s < 18446744073709551616) (w : World) : Calls Tryd.prog 35 #[.int .u64 s] w fun e w' => e = .returned (.int .u64 (initN s)) ∧ w' = w := by
  have hc := rwords_any s hs w
  unfold initN
  by_cases h : 8388608 < s
  · rw [if_pos h]
    have g : (8388608 : Int) < (s : Int) := by omega
    clear h hs hc
    go_enter Tryd.func35, Tryd.ntmps35
    go_wp2_with fail
    go_ret
    exact ⟨rfl, rfl⟩
  · rw [if_neg h]
    have g : ¬ (8388608 : Int) < (s : Int) := by omega
    have h1 := wds_le (s := s) (by omega)
    generalize wds s = k at *
    have e1 : IntKind.u64.wrap (2 * (k : Int)) = ((2 * k : Nat) : Int) := by rw [IntKind.wrap_u64]; omega
    clear h hs h1
    have HC := hideP hc
    clear hc
    go_enter Tryd.func35, Tryd.ntmps35
    go_wp2_with fail
    refine HC.out.mono ?_
    rintro e w' ⟨rfl, rfl⟩
    go_wp2_with fail
    go_ret
    exact ⟨rfl, rfl⟩

set_option maxHeartbeats 1000000 in
set_option maxRecDepth 100000 in
theorem deposit_any (s : Nat) (hs : s < 18446744073709551616) (w : World) : Calls Tryd.prog 36 #[.int .u64 s] w fun e w' => e = .returned (.int .u64 (depositN s)) ∧ w' = w := by
  unfold depositN
  by_cases h : 8388608 < s
  · rw [if_pos h]
    have g : (8388608 : Int) < (s : Int) := by omega
    clear h hs
    go_enter Tryd.func36, Tryd.ntmps36
    go_wp2_with fail
    go_ret
    exact ⟨rfl, rfl⟩
  · rw [if_neg h]
    have g : ¬ (8388608 : Int) < (s : Int) := by omega
    have e1 : IntKind.u64.wrap (200 * (s : Int)) = ((200 * s : Nat) : Int) := by rw [IntKind.wrap_u64]; omega
    clear h hs
    go_enter Tryd.func36, Tryd.ntmps36
    go_wp2_with fail
    go_ret
    exact ⟨rfl, rfl⟩

set_option maxHeartbeats 1000000 in
set_option maxRecDepth 100000 in
theorem rdeposit_any (s : Nat) (hs : s < 18446744073709551616) (w : World) : Calls Tryd.prog 37 #[.int .u64 s] w fun e w' => e = .returned (.int .u64 (depositN s)) ∧ w' = w := by
  unfold depositN
  by_cases h : 8388608 < s
  · rw [if_pos h]
    have g : (8388608 : Int) < (s : Int) := by omega
    clear h hs
    go_enter Tryd.func37, Tryd.ntmps37
    go_wp2_with fail
    go_ret
    exact ⟨rfl, rfl⟩
  · rw [if_neg h]
    have g : ¬ (8388608 : Int) < (s : Int) := by omega
    have e1 : IntKind.u64.wrap (200 * (s : Int)) = ((200 * s : Nat) : Int) := by rw [IntKind.wrap_u64]; omega
    clear h hs
    go_enter Tryd.func37, Tryd.ntmps37
    go_wp2_with fail
    go_ret
    exact ⟨rfl, rfl⟩

def accountN (b : Bool) : Nat := if b then 100 else 2600

def slotN (b : Bool) : Nat := if b then 100 else 2100

set_option maxHeartbeats 1000000 in
set_option maxRecDepth 100000 in
theorem account_any (b : Bool) (w : World) : Calls Tryd.prog 30 #[.bool b] w fun e w' => e = .returned (.int .u64 (accountN b)) ∧ w' = w := by
  cases b
  all_goals
    go_enter Tryd.func30, Tryd.ntmps30
    go_wp2_with fail
    go_ret
    exact ⟨rfl, rfl⟩

set_option maxHeartbeats 1000000 in
set_option maxRecDepth 100000 in
theorem raccount_any (b : Bool) (w : World) : Calls Tryd.prog 31 #[.bool b] w fun e w' => e = .returned (.int .u64 (accountN b)) ∧ w' = w := by
  cases b
  all_goals
    go_enter Tryd.func31, Tryd.ntmps31
    go_wp2_with fail
    go_ret
    exact ⟨rfl, rfl⟩

set_option maxHeartbeats 1000000 in
set_option maxRecDepth 100000 in
theorem slot_any (b : Bool) (w : World) : Calls Tryd.prog 32 #[.bool b] w fun e w' => e = .returned (.int .u64 (slotN b)) ∧ w' = w := by
  cases b
  all_goals
    go_enter Tryd.func32, Tryd.ntmps32
    go_wp2_with fail
    go_ret
    exact ⟨rfl, rfl⟩

set_option maxHeartbeats 1000000 in
set_option maxRecDepth 100000 in
theorem rslot_any (b : Bool) (w : World) : Calls Tryd.prog 33 #[.bool b] w fun e w' => e = .returned (.int .u64 (slotN b)) ∧ w' = w := by
  cases b
  all_goals
    go_enter Tryd.func33, Tryd.ntmps33
    go_wp2_with fail
    go_ret
    exact ⟨rfl, rfl⟩

end Go.Proofs.YtaeadndihchbnaaDoor
