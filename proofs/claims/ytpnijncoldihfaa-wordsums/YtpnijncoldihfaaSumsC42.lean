/-
  Sums, differences and products are the document's: the walk of the law.
-/
import Derived.Test.YtpnijncoldihfaaSumsC41
import Derived.Test.YtpnijncoldihfaaSumsC24
import Derived.Test.YtpnijncoldihfaaSumsC26
import Derived.Test.YtpnijncoldihfaaSumsC14
import Derived.Test.YtpnijncoldihfaaSumsC15
import Derived.Test.YtpnijncoldihfaaSumsC28
import Derived.Test.YtpnijncoldihfaaSumsC29
import Derived.Test.YtpnijncoldihfaaSumsC35
import Derived.Test.YtpnijncoldihfaaSumsC31
namespace Go.Proofs.Ytpnijncoldihfaa
open Go.RowKit Go.Shelf

theorem at_world_calls {P : Program} {f : FuncId} {args : Array Value} {w : World} {Q : Ending → World → Prop} (h : ∀ W0, W0 = w → Calls P f args W0 Q) : Calls P f args w Q := h w rfl

end Go.Proofs.Ytpnijncoldihfaa

namespace Go.Proofs.Ytpnijncoldihfaa
open Go.RowKit Go.Shelf

theorem carryB (X Y : Nat) (w : World) : Calls Try.prog 16 #[wv X, wv Y] w fun e w' => e = .returned (.tuple #[wv (X + Y), .bool (decide (M256 ≤ X % M256 + Y % M256))]) ∧ Below w.heap.size w w' := by
  rcases Nat.lt_or_ge (X % M256 + Y % M256) M256 with h | h
  · rw [decide_eq_false (by omega)]; exact carryS_no X Y h w
  · rw [decide_eq_true h]; exact carryS_yes X Y h w

theorem borrowB (X Y : Nat) (w : World) : Calls Try.prog 17 #[wv X, wv Y] w fun e w' => e = .returned (.tuple #[wv (X + negN Y), .bool (decide (X % M256 < Y % M256))]) ∧ Below w.heap.size w w' := by
  refine (borrow_any w X Y).mono ?_
  rintro e w' ⟨c, rfl, hc, h2, h3, hb⟩
  refine ⟨?_, hb⟩
  rw [sub_wv X Y c h2]
  have hx := Nat.mod_lt X M256_pos
  have hy := Nat.mod_lt Y M256_pos
  rcases (show c = 0 ∨ c = 1 by omega) with h | h
  · subst h
    have : ¬ X % M256 < Y % M256 := by omega
    simp [this]
  · subst h
    have : X % M256 < Y % M256 := by
      omega
    simp [this]

theorem cmp_neg (a b : Nat) : decide (cmpI a b < 0) = decide (a < b) := by
  unfold cmpI
  by_cases h : a < b
  · simp [h]
  · by_cases h2 : b < a <;> simp [h, h2]

theorem cmp_le (a : Nat) : cmpI a 18446744073709551615 ≤ 0 ↔ a < 18446744073709551616 := by
  unfold cmpI
  split
  · omega
  · split <;> omega

/-- Eight limbs are equal to themselves. -/
theorem eq8 (q0 q1 q2 q3 q4 q5 q6 q7 : Int) (W : World) : (Op.equalIn 10000 36 (.agg #[.int .u64 q0, .int .u64 q1, .int .u64 q2, .int .u64 q3, .int .u64 q4, .int .u64 q5, .int .u64 q6, .int .u64 q7]) (.agg #[.int .u64 q0, .int .u64 q1, .int .u64 q2, .int .u64 q3, .int .u64 q4, .int .u64 q5, .int .u64 q6, .int .u64 q7])).run Try.prog W = .ok true W := by
  have h : ∀ x y : Int, (Op.equalIn 9999 22 (.int .u64 x) (.int .u64 y)).run Try.prog W = .ok (x == y) W := fun x y => by
    unfold Op.equalIn
    simp [go_sem]
  unfold Op.equalIn
  simp [go_sem, List.range', h]

end Go.Proofs.Ytpnijncoldihfaa
