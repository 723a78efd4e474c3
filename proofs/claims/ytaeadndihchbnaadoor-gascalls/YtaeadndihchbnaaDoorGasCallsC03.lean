/-
  Words and memory, by numbers; prices of numbers.
-/
import Derived.Scope
import Derived.Test.YtaeadndihchbnaaDoorGasCallsC02
namespace Go.Proofs.YtaeadndihchbnaaDoor
open Go.RowKit Go.Shelf

set_option maxHeartbeats 1000000 in
set_option maxRecDepth 100000 in
theorem words_any (n : Nat) (hn : n < 18446744073709551616) (w : World) : Calls Tryd.prog 18 #[.int .u64 n] w fun e w' => e = .returned (.int .u64 (wds n)) ∧ w' = w := by
  have e1 : IntKind.u64.wrap ((n : Int) / 32) = ((n / 32 : Nat) : Int) := by rw [IntKind.wrap_u64]; omega
  have e5 : IntKind.u64.wrap ((n : Int) / 32 + 1) = (n : Int) / 32 + 1 := by rw [IntKind.wrap_u64]; omega
  rw [← wds_alt]
  by_cases h : n % 32 = 0
  · rw [if_pos h]
    have g : (n : Int) % 32 = 0 := by omega
    clear h hn
    go_enter Tryd.func18, Tryd.ntmps18
    go_wp2_with fail
    go_ret
    exact ⟨rfl, rfl⟩
  · rw [if_neg h]
    have g : ¬ (n : Int) % 32 = 0 := by omega
    have g' : (0 : Int) < (n : Int) % 32 := by omega
    clear h hn
    go_enter Tryd.func18, Tryd.ntmps18
    go_wp2_with fail
    go_ret
    exact ⟨rfl, rfl⟩

theorem wds_le {s : Nat} (h : s ≤ 8388608) : wds s ≤ 262144 := by unfold wds; omega

theorem wds_sq {s : Nat} (h : s ≤ 8388608) : wds s * wds s ≤ 68719476736 := Nat.mul_le_mul (wds_le h) (wds_le h)

set_option maxHeartbeats 1000000 in
set_option maxRecDepth 100000 in
theorem memory_any (s : Nat) (hs : s < 18446744073709551616) (w : World) : Calls Tryd.prog 20 #[.int .u64 s] w fun e w' => e = .returned (.int .u64 (memN s)) ∧ w' = w := by
  have hc := words_any s hs w
  unfold memN
  by_cases h : 8388608 < s
  · rw [if_pos h]
    have g : (8388608 : Int) < (s : Int) := by omega
    clear h hs hc
    go_enter Tryd.func20, Tryd.ntmps20
    go_wp2_with fail
    go_ret
    exact ⟨rfl, rfl⟩
  · rw [if_neg h]
    have g : ¬ (8388608 : Int) < (s : Int) := by omega
    have h1 := wds_le (s := s) (by omega)
    have h2 := wds_sq (s := s) (by omega)
    generalize wds s = k at *
    have e1 : IntKind.u64.wrap (3 * (k : Int)) = ((3 * k : Nat) : Int) := by rw [IntKind.wrap_u64]; omega
    have e2 : IntKind.u64.wrap ((k : Int) * (k : Int)) = ((k * k : Nat) : Int) := by rw [← Int.natCast_mul, IntKind.wrap_u64]; omega
    generalize k * k = kk at *
    have e3 : IntKind.u64.wrap ((kk : Int) / 512) = ((kk / 512 : Nat) : Int) := by rw [IntKind.wrap_u64]; omega
    have e4 : IntKind.u64.wrap (3 * (k : Int) + (kk : Int) / 512) = 3 * (k : Int) + (kk : Int) / 512 := by rw [IntKind.wrap_u64]; omega
    clear h hs h1 h2
    have HC := hideP hc
    clear hc
    go_enter Tryd.func20, Tryd.ntmps20
    go_wp2_with fail
    refine HC.out.mono ?_
    rintro e w' ⟨rfl, rfl⟩
    go_wp2_with fail
    go_ret
    exact ⟨rfl, rfl⟩

def accountN (b : Bool) : Nat := if b then 100 else 2600

def callN (warm paid fresh : Bool) : Nat := accountN warm + (if paid then 9000 else 0) + (if paid && fresh then 25000 else 0)

set_option maxHeartbeats 1000000 in
set_option maxRecDepth 100000 in
theorem account_any (b : Bool) (w : World) : Calls Tryd.prog 30 #[.bool b] w fun e w' => e = .returned (.int .u64 (accountN b)) ∧ w' = w := by
  cases b
  all_goals
    go_enter Tryd.func30, Tryd.ntmps30
    go_wp2_with fail
    go_ret
    exact ⟨rfl, rfl⟩

set_option maxHeartbeats 1000000 in
set_option maxRecDepth 100000 in
theorem raccount_any (b : Bool) (w : World) : Calls Tryd.prog 31 #[.bool b] w fun e w' => e = .returned (.int .u64 (accountN b)) ∧ w' = w := by
  cases b
  all_goals
    go_enter Tryd.func31, Tryd.ntmps31
    go_wp2_with fail
    go_ret
    exact ⟨rfl, rfl⟩

set_option maxHeartbeats 1000000 in
set_option maxRecDepth 100000 in
theorem callcost_any (warm paid fresh : Bool) (w : World) : Calls Tryd.prog 42 #[.bool warm, .bool paid, .bool fresh] w fun e w' => e = .returned (.int .u64 (callN warm paid fresh)) ∧ w' = w := by
  have HC := hideP (account_any warm w)
  have hk : accountN warm ≤ 2600 := by cases warm <;> decide
  unfold callN
  generalize accountN warm = k at *
  have e1 : IntKind.u64.wrap ((k : Int) + 9000) = (k : Int) + 9000 := by rw [IntKind.wrap_u64]; omega
  have e2 : IntKind.u64.wrap ((k : Int) + 9000 + 25000) = (k : Int) + 9000 + 25000 := by rw [IntKind.wrap_u64]; omega
  clear hk
  cases paid <;> cases fresh
  all_goals
    go_enter Tryd.func42, Tryd.ntmps42
    go_wp2_with fail
    refine HC.out.mono ?_
    rintro e w' ⟨rfl, rfl⟩
    go_wp2_with fail
    go_ret
    exact ⟨rfl, rfl⟩

set_option maxHeartbeats 1000000 in
set_option maxRecDepth 100000 in
theorem rcallcost_any (warm paid fresh : Bool) (w : World) : Calls Tryd.prog 43 #[.bool warm, .bool paid, .bool fresh] w fun e w' => e = .returned (.int .u64 (callN warm paid fresh)) ∧ w' = w := by
  have HC := hideP (raccount_any warm w)
  have hk : accountN warm ≤ 2600 := by cases warm <;> decide
  unfold callN
  generalize accountN warm = k at *
  have e1 : IntKind.u64.wrap ((k : Int) + 9000) = (k : Int) + 9000 := by rw [IntKind.wrap_u64]; omega
  have e2 : IntKind.u64.wrap ((k : Int) + 9000 + 25000) = (k : Int) + 9000 + 25000 := by rw [IntKind.wrap_u64]; omega
  clear hk
  cases paid <;> cases fresh
  all_goals
    go_enter Tryd.func43, Tryd.ntmps43
    go_wp2_with fail
    refine HC.out.mono ?_
    rintro e w' ⟨rfl, rfl⟩
    go_wp2_with fail
    go_ret
    exact ⟨rfl, rfl⟩

theorem refund_int (u : Nat) (r : Int) : ((refundN u r : Nat) : Int) = min ((u / 5 : Nat) : Int) (max r 0) := by
  unfold refundN
  split <;> omega

set_option maxHeartbeats 1000000 in
set_option maxRecDepth 100000 in
theorem refund_any (u : Nat) (r : Int) (hu : u < 18446744073709551616) (hr : -9223372036854775808 ≤ r ∧ r ≤ 9223372036854775807) (w : World) : Calls Tryd.prog 46 #[.int .u64 u, .int .i64 r] w fun e w' => e = .returned (.int .u64 (refundN u r)) ∧ w' = w := by
  rw [refund_int]
  have e1 : IntKind.u64.wrap ((u : Int) / 5) = (u : Int) / 5 := by rw [IntKind.wrap_u64]; omega
  have e2 : IntKind.u64.wrap (max r 0) = max r 0 := by rw [IntKind.wrap_u64]; omega
  by_cases h : r < 0
  · have h' := h
    clear hr
    go_enter Tryd.func46, Tryd.ntmps46
    go_wp2_with fail
    go_ret
    exact ⟨congrArg (fun x => Ending.returned (.int .u64 x)) (by omega), rfl⟩
  · have e3 : IntKind.u64.wrap r = r := by rw [IntKind.wrap_u64]; omega
    have e4 : max r 0 = r := by omega
    rw [e4] at e2 ⊢
    clear hr
    go_enter Tryd.func46, Tryd.ntmps46
    go_wp2_with fail
    go_ret
    exact ⟨congrArg (fun x => Ending.returned (.int .u64 x)) (by omega), rfl⟩

set_option maxHeartbeats 1000000 in
set_option maxRecDepth 100000 in
theorem rrefund_any (u : Nat) (r : Int) (hu : u < 18446744073709551616) (hr : -9223372036854775808 ≤ r ∧ r ≤ 9223372036854775807) (w : World) : Calls Tryd.prog 47 #[.int .u64 u, .int .i64 r] w fun e w' => e = .returned (.int .u64 (refundN u r)) ∧ w' = w := by
  rw [refund_int]
  have e1 : IntKind.u64.wrap ((u : Int) / 5) = (u : Int) / 5 := by rw [IntKind.wrap_u64]; omega
  have e2 : IntKind.u64.wrap (max r 0) = max r 0 := by rw [IntKind.wrap_u64]; omega
  by_cases h : r < 0
  · have h' := h
    clear hr
    go_enter Tryd.func47, Tryd.ntmps47
    go_wp2_with fail
    go_ret
    exact ⟨congrArg (fun x => Ending.returned (.int .u64 x)) (by omega), rfl⟩
  · have e3 : IntKind.u64.wrap r = r := by rw [IntKind.wrap_u64]; omega
    have e4 : max r 0 = r := by omega
    rw [e4] at e2 ⊢
    clear hr
    go_enter Tryd.func47, Tryd.ntmps47
    go_wp2_with fail
    go_ret
    exact ⟨congrArg (fun x => Ending.returned (.int .u64 x)) (by omega), rfl⟩

end Go.Proofs.YtaeadndihchbnaaDoor
