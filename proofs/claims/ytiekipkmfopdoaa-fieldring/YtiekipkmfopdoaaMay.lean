/-
  Numbers that may be no modulus.
-/
import Derived.Test.YtiekipkmfopdoaaAwake
namespace Go.Proofs.Ytiekipkmfopdoaa.W4
open Go.RowKit Go.Shelf

set_option maxHeartbeats 1000000 in
set_option maxRecDepth 100000 in
theorem may_bad (m : Nat) (hbad : m % 2 = 0 ∨ m < 3) (b : Nat) (w : World) (hb : w.heap[b]? = some (.cells (cs (limb m)) 24 (0, 0))) : Calls Try.prog 27 #[.slice (some ⟨b, 0, none⟩) 4 4] w fun e w' => e = .returned (.bool false) ∧ w = w' := by
  obtain ⟨c0, c1, c2, c3⟩ := cells hb
  have h0 := limb0_mod m
  by_cases he : m % 2 = 0
  · have e1 : ((limb m 0 : Int)).tmod 2 = 0 := by rw [Int.tmod_eq_emod_of_nonneg (by omega)]; omega
    have e2 : IntKind.u64.wrap (0 : Int) = 0 := rfl
    clear hbad hb h0 he
    go_enter Try.func27, Try.ntmps27
    go_wp2
    go_ret
    exact ⟨rfl, rfl⟩
  · have hm : m = 1 := by omega
    subst hm
    have l0 : limb 1 0 = 1 := by decide
    have l1 : limb 1 1 = 0 := by decide
    have l2 : limb 1 2 = 0 := by decide
    have l3 : limb 1 3 = 0 := by decide
    rw [l0] at c0
    rw [l1] at c1
    rw [l2] at c2
    rw [l3] at c3
    replace c0 : w.cell? ⟨b, 0, none⟩ = some (.int .u64 1) := c0
    replace c1 : w.cell? ⟨b, 1, none⟩ = some (.int .u64 0) := c1
    replace c2 : w.cell? ⟨b, 2, none⟩ = some (.int .u64 0) := c2
    replace c3 : w.cell? ⟨b, 3, none⟩ = some (.int .u64 0) := c3
    have hor : bits .or .u64 0 0 = 0 := by decide
    clear hbad hb h0 he l0 l1 l2 l3
    go_enter Try.func27, Try.ntmps27
    go_wp2_with fail
    refine wp_loop_rounds 4 ?_
    rw [rounds_succ]
    go_wp2_with fail
    rw [rounds_succ]
    go_wp2_with fail
    rw [rounds_succ]
    go_wp2_with fail
    rw [rounds_succ]
    go_wp2
    go_ret
    simp

end Go.Proofs.Ytiekipkmfopdoaa.W4
