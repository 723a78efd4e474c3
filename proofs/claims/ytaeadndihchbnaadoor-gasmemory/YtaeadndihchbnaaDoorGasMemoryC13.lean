/-
  Prices by words and bytes: copies, hashes, logs, powers.
-/
import Derived.Test.YtaeadndihchbnaaDoorGasMemoryC12
namespace Go.Proofs.YtaeadndihchbnaaDoor
open Go.RowKit Go.Shelf

theorem memOf_in {X : Nat} (h : X % M256 ≤ 8388608) : memOf X = (X % M256, 0) := if_pos h

theorem memOf_out {X : Nat} (h : ¬ X % M256 ≤ 8388608) : memOf X = (0, 140) := if_neg h

set_option maxHeartbeats 2000000 in
set_option maxRecDepth 100000 in
theorem small_any (X : Nat) (w : World) : Calls Tryd.prog 65 #[wv X] w fun e w' => e = .returned (.int .u64 (smallN X 8388609)) ∧ Below w.heap.size w w' := by
  obtain ⟨x0, x1, x2, x3, hX⟩ := wv_form X
  have hc := fun W => refSmall_any X 8388609 (by decide) W
  have hb : smallN X 8388609 ≤ 8388609 := by unfold smallN; split <;> omega
  generalize smallN X 8388609 = r at *
  have e1 : IntKind.u64.wrap (r : Int) = (r : Int) := by rw [IntKind.wrap_u64]; omega
  rw [hX] at hc ⊢
  have HC := hideP hc
  clear hX hc hb
  go_enter Tryd.func65, Tryd.ntmps65
  go_wp2_with fail
  refine at_world_q (fun W0 hW0 => ?_)
  obtain ⟨HBx, HBW⟩ := box1 hW0
  clear hW0
  replace HBW := hideP HBW
  replace HBx := hideP HBx
  refine (HC.out _).mono ?_
  rintro e V1 ⟨rfl, hb⟩
  replace HBx := hideP ((hb.block _ (lt_of_block HBx.out)).trans HBx.out)
  replace HBW := hideP (HBW.out.trans (hb.mono HBW.out.size))
  clear hb
  go_wp2_with fail
  go_ret
  exact ⟨rfl, HBW.out⟩

end Go.Proofs.YtaeadndihchbnaaDoor
