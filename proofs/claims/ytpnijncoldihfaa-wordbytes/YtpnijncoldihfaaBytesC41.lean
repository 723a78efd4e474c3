/-
  The chapter's text of 255.
-/
import Derived.Test.YtpnijncoldihfaaBytesC40
namespace Go.Proofs.Ytpnijncoldihfaa
open Go.RowKit Go.Shelf

set_option maxHeartbeats 1000000 in
set_option maxRecDepth 100000 in
theorem hex_ff (w : World) : Calls Try.prog 76 #[wv 255] w fun e w' => e = .returned (.string ⟨#[48, 120, 102, 102]⟩) ∧ Below w.heap.size w w' := by
  have h := fun W => digits_ff W
  rw [wv_small (by omega)]
  have H := hideP h
  clear h
  go_enter Try.func76, Try.ntmps76
  go_wp2_with fail
  refine (H.out _).mono ?_
  rintro e w1 ⟨rfl, hb⟩
  have HB1 : Hid (Below w.heap.size w w1) := by
    first
      | exact ((Below.refl _ w).alloc (Nat.le_refl _) _).trans (hb.mono (by simp))
      | exact hb
  clear hb
  go_wp2_with fail
  go_ret
  exact ⟨congrArg Ending.returned (congrArg Value.string (by decide +kernel)), HB1.out⟩

end Go.Proofs.Ytpnijncoldihfaa
