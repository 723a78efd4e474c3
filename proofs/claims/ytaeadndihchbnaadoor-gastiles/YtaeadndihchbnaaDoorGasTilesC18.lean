/-
  A word as a number of bytes of memory; prices by words.
-/
import Derived.Test.YtaeadndihchbnaaDoorGasTilesC04
namespace Go.Proofs.YtaeadndihchbnaaDoor
open Go.RowKit Go.Shelf

/-- A word as so many bytes: the number, or too many. -/
def memOf (X : Nat) : Nat × Int := if X % M256 ≤ 8388608 then (X % M256, 0) else (0, 140)

set_option maxHeartbeats 2000000 in
set_option maxRecDepth 100000 in
theorem inMemory_any (X : Nat) (w : World) : Calls Tryd.prog 63 #[wv X] w fun e w' => e = .returned (.tuple #[.int .u64 (memOf X).1, .int .i64 (memOf X).2]) ∧ Below w.heap.size w w' := by
  unfold memOf
  obtain ⟨x0, x1, x2, x3, hX⟩ := wv_form X
  by_cases h : X % M256 < 18446744073709551616
  · have hc := fun W => small_in X h W
    rw [hX] at hc ⊢
    generalize X % M256 = n at *
    clear hX
    by_cases h2 : n ≤ 8388608
    · rw [if_pos h2]
      have g : ¬ (8388608 : Int) < (n : Int) := by omega
      have HC := hideP hc
      clear hc h h2
      go_enter Tryd.func63, Tryd.ntmps63
      go_wp2_with fail
      refine at_world_q (fun W0 hW0 => ?_)
      obtain ⟨HBx, HBW⟩ := box1 hW0
      clear hW0
      replace HBW := hideP HBW
      replace HBx := hideP HBx
      refine (HC.out _).mono ?_
      rintro e V1 ⟨rfl, hb⟩
      replace HBx := hideP ((hb.block _ (lt_of_block HBx.out)).trans HBx.out)
      replace HBW := hideP (HBW.out.trans (hb.mono HBW.out.size))
      clear hb
      go_wp2_with fail
      go_ret2
      exact ⟨rfl, HBW.out⟩
    · rw [if_neg h2]
      have g : (8388608 : Int) < (n : Int) := by omega
      have HC := hideP hc
      clear hc h h2
      go_enter Tryd.func63, Tryd.ntmps63
      go_wp2_with fail
      refine at_world_q (fun W0 hW0 => ?_)
      obtain ⟨HBx, HBW⟩ := box1 hW0
      clear hW0
      replace HBW := hideP HBW
      replace HBx := hideP HBx
      refine (HC.out _).mono ?_
      rintro e V1 ⟨rfl, hb⟩
      replace HBx := hideP ((hb.block _ (lt_of_block HBx.out)).trans HBx.out)
      replace HBW := hideP (HBW.out.trans (hb.mono HBW.out.size))
      clear hb
      go_wp2_with fail
      go_ret2
      exact ⟨rfl, HBW.out⟩
  · have hc := fun W => small_out X h W
    rw [if_neg (by omega)]
    rw [hX] at hc ⊢
    have HC := hideP hc
    clear hc h hX
    go_enter Tryd.func63, Tryd.ntmps63
    go_wp2_with fail
    refine at_world_q (fun W0 hW0 => ?_)
    obtain ⟨HBx, HBW⟩ := box1 hW0
    clear hW0
    replace HBW := hideP HBW
    replace HBx := hideP HBx
    refine (HC.out _).mono ?_
    rintro e V1 ⟨rfl, hb⟩
    replace HBx := hideP ((hb.block _ (lt_of_block HBx.out)).trans HBx.out)
    replace HBW := hideP (HBW.out.trans (hb.mono HBW.out.size))
    clear hb
    go_wp2_with fail
    go_ret2
    exact ⟨rfl, HBW.out⟩

end Go.Proofs.YtaeadndihchbnaaDoor
