/-
  How many limbs there are without the leading ones that are 0.
-/
import Derived.Test.YtpnijncoldihfaaW8
namespace Go.Proofs.Ytpnijncoldihfaa
open Go.RowKit Go.Shelf

set_option maxHeartbeats 1000000 in
set_option maxRecDepth 100000 in
theorem used_any (w : World) (b n cap : Nat) (f : Nat → Nat) (hn : n ≤ 9) (hc : ∀ j, j < n → w.cell? ⟨b, j, none⟩ = some (.int .u64 (f j))) :
    Calls Try.prog 111 #[.slice (some ⟨b, 0, none⟩) n cap] w fun e w' => (∃ k : Nat, e = .returned (.int .i64 k) ∧ k ≤ n ∧ (∀ j, k ≤ j → j < n → f j = 0) ∧ (0 < k → f (k - 1) ≠ 0)) ∧ w = w' := by
  go_enter Try.func111, Try.ntmps111
  go_wp2_with fail
  go_loop [3, 6] (fun _ i => ∃ k : Nat, k ≤ n ∧ i = .int .i64 k ∧ ∀ j, n - k ≤ j → j < n → f j = 0) (fun _ i => n - (intOf i).toNat)
  case atStart => exact ⟨0, Nat.zero_le _, rfl, fun j h1 h2 => by omega⟩
  case round =>
    obtain ⟨k, hk, rfl, hz⟩ := hrel
    have HZ := hideP hz
    clear hz
    by_cases hlt : k < n
    · obtain ⟨j, hj⟩ : ∃ j, j = n - 1 - k := ⟨_, rfl⟩
      have hcj := hc j (by omega)
      have e1 : IntKind.i64.wrap ((n : Int) - 1) = (n : Int) - 1 := by rw [IntKind.wrap_i64]; omega
      have e2 : IntKind.i64.wrap ((n : Int) - 1 - k) = (j : Int) := by rw [IntKind.wrap_i64]; omega
      have e3 : IntKind.i64.wrap ((n : Int) - k) = (j : Int) + 1 := by rw [IntKind.wrap_i64]; omega
      have e4 : IntKind.i64.wrap ((k : Int) + 1) = (k : Int) + 1 := by rw [IntKind.wrap_i64]; omega
      have hj1 : (j : Int) < n := by omega
      have HJ := hideP hj
      have hlt' : (k : Int) < n := by omega
      clear hj hc
      by_cases hv : f j = 0
      · have hb : ((f j : Int) == 0) = true := by simp [hv]
        have HV := hideP hv
        clear hv
        go_wp2_with fail
        go_round
        case rel =>
          refine ⟨k + 1, by omega, by go_num, fun i h1 h2 => ?_⟩
          have hj := HJ.out
          by_cases hi : i = j
          · rw [hi]; exact HV.out
          · exact HZ.out i (by omega) h2
        case measure => simp [intOf]; omega
      · have hb : ((f j : Int) == 0) = false := by simp; omega
        have HV := hideP hv
        clear hv
        go_wp2_with fail
        go_ret
        have hj := HJ.out
        exact ⟨⟨j + 1, by simp, by omega, fun i h1 h2 => HZ.out i (by omega) h2, fun _ => by simpa using HV.out⟩, rfl⟩
    · have hlt' : ¬ ((k : Int) < n) := by omega
      have hkn : k = n := by omega
      subst hkn
      clear hc hlt' hk
      go_wp2_with fail
      go_ret
      exact ⟨⟨0, rfl, Nat.zero_le _, fun i h1 h2 => HZ.out i (by omega) h2, fun h => by omega⟩, rfl⟩
end Go.Proofs.Ytpnijncoldihfaa
