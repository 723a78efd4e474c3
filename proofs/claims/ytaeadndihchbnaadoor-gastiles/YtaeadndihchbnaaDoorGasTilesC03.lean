/-
  Words and memory, by numbers; prices of numbers.
-/
import Derived.Scope
import Derived.Test.YtaeadndihchbnaaDoorGasTilesC02
namespace Go.Proofs.YtaeadndihchbnaaDoor
open Go.RowKit Go.Shelf

set_option maxHeartbeats 1000000 in
set_option maxRecDepth 100000 in
theorem words_any (n : Nat) (hn : n < 18446744073709551616) (w : World) : Calls Tryd.prog 18 #[.int .u64 n] w fun e w' => e = .returned (.int .u64 (wds n)) ∧ w' = w := by
  have e1 : IntKind.u64.wrap ((n : Int) / 32) = ((n / 32 : Nat) : Int) := by rw [IntKind.wrap_u64]; omega
  have e5 : IntKind.u64.wrap ((n : Int) / 32 + 1) = (n : Int) / 32 + 1 := by rw [IntKind.wrap_u64]; omega
  rw [← wds_alt]
  by_cases h : n % 32 = 0
  · rw [if_pos h]
    have g : (n : Int) % 32 = 0 := by omega
    clear h hn
    go_enter Tryd.func18, Tryd.ntmps18
    go_wp2_with fail
    go_ret
    exact ⟨rfl, rfl⟩
  · rw [if_neg h]
    have g : ¬ (n : Int) % 32 = 0 := by omega
    have g' : (0 : Int) < (n : Int) % 32 := by omega
    clear h hn
    go_enter Tryd.func18, Tryd.ntmps18
    go_wp2_with fail
    go_ret
    exact ⟨rfl, rfl⟩

theorem wds_le {s : Nat} (h : s ≤ 8388608) : wds s ≤ 262144 := by unfold wds; omega

theorem wds_sq {s : Nat} (h : s ≤ 8388608) : wds s * wds s ≤ 68719476736 := Nat.mul_le_mul (wds_le h) (wds_le h)

set_option maxHeartbeats 1000000 in
set_option maxRecDepth 100000 in
theorem memory_any (s : Nat) (hs : s < 18446744073709551616) (w : World) : Calls Tryd.prog 20 #[.int .u64 s] w fun e w' => e = .returned (.int .u64 (memN s)) ∧ w' = w := by
  have hc := words_any s hs w
  unfold memN
  by_cases h : 8388608 < s
  · rw [if_pos h]
    have g : (8388608 : Int) < (s : Int) := by omega
    clear h hs hc
    go_enter Tryd.func20, Tryd.ntmps20
    go_wp2_with fail
    go_ret
    exact ⟨rfl, rfl⟩
  · rw [if_neg h]
    have g : ¬ (8388608 : Int) < (s : Int) := by omega
    have h1 := wds_le (s := s) (by omega)
    have h2 := wds_sq (s := s) (by omega)
    generalize wds s = k at *
    have e1 : IntKind.u64.wrap (3 * (k : Int)) = ((3 * k : Nat) : Int) := by rw [IntKind.wrap_u64]; omega
    have e2 : IntKind.u64.wrap ((k : Int) * (k : Int)) = ((k * k : Nat) : Int) := by rw [← Int.natCast_mul, IntKind.wrap_u64]; omega
    generalize k * k = kk at *
    have e3 : IntKind.u64.wrap ((kk : Int) / 512) = ((kk / 512 : Nat) : Int) := by rw [IntKind.wrap_u64]; omega
    have e4 : IntKind.u64.wrap (3 * (k : Int) + (kk : Int) / 512) = 3 * (k : Int) + (kk : Int) / 512 := by rw [IntKind.wrap_u64]; omega
    clear h hs h1 h2
    have HC := hideP hc
    clear hc
    go_enter Tryd.func20, Tryd.ntmps20
    go_wp2_with fail
    refine HC.out.mono ?_
    rintro e w' ⟨rfl, rfl⟩
    go_wp2_with fail
    go_ret
    exact ⟨rfl, rfl⟩

end Go.Proofs.YtaeadndihchbnaaDoor
