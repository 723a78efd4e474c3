/-
  Whether one number is below another: the program's Less.
-/
import Derived.Test.YtiekipkmfopdoaaSub4
namespace Go.Proofs.Ytiekipkmfopdoaa.W4
open Go.RowKit Go.Shelf

set_option maxHeartbeats 400000 in
set_option maxRecDepth 100000 in
theorem lessw_any (X Y : Nat) (hX : X < R) (hY : Y < R) (w : World) : Calls Try.prog 65 #[wv X, wv Y] w fun e w' => e = .returned (.bool (decide (X < Y))) ∧ Below w.heap.size w w' := by
  have HC := hideP (fun w => minus_any X Y hX hY w)
  have hd : decide (X < Y) = ((less1 X Y : Int) == 1) := by
    unfold less1
    by_cases h : X < Y <;> simp [h]
  rw [hd]
  clear hX hY hd
  generalize X + R * less1 X Y - Y = D at *
  generalize less1 X Y = b at *
  unfold wv cs at HC
  unfold wv cs
  go_enter Try.func65, Try.ntmps65
  go_wp2_with fail
  refine at_world_q (fun W0 hW0 => ?_)
  have HBW : Hid (Below w.heap.size w W0) := by
    show Below _ _ _
    rw [hW0]
    repeat first | exact Below.refl _ _ | (refine Below.alloc ?_ (by simp <;> omega) _)
  clear hW0
  refine (HC.out _).mono ?_
  rintro e w1 ⟨rfl, hb⟩
  have HB := hideP (HBW.out.trans (hb.mono HBW.out.size))
  clear hb
  go_wp2
  go_ret
  refine ⟨rfl, ?_⟩
  have hs := HB.out.size
  repeat first | exact HB.out | apply Below.drew | (refine Below.alloc ?_ hs _) | (refine Below.alloc ?_ (by simp <;> omega) _) | (refine Below.setCell ?_ (by simp <;> omega) _)

end Go.Proofs.Ytiekipkmfopdoaa.W4
