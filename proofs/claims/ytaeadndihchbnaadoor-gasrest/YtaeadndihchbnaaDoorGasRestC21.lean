/-
  What a call hands on; what the bytes of an exponent cost.
-/
import Derived.Test.YtaeadndihchbnaaDoorGasRestC14
namespace Go.Proofs.YtaeadndihchbnaaDoor
open Go.RowKit Go.Shelf

theorem most_wrap0 (l : Nat) (h : l < 18446744073709551616) : IntKind.u64.wrap ((l : Int) / 64) = (l : Int) / 64 := by rw [IntKind.wrap_u64]; omega

theorem most_wrap (l : Nat) (h : l < 18446744073709551616) : IntKind.u64.wrap ((l : Int) - (l : Int) / 64) = (l : Int) - (l : Int) / 64 := by rw [IntKind.wrap_u64]; omega

set_option maxHeartbeats 2000000 in
set_option maxRecDepth 100000 in
theorem forward_any (l X : Nat) (hl : l < 18446744073709551616) (w : World) : Calls Tryd.prog 44 #[.int .u64 l, wv X] w fun e w' => e = .returned (.int .u64 (forwardN l (X % M256))) ∧ Below w.heap.size w w' := by
  obtain ⟨x0, x1, x2, x3, hX⟩ := wv_form X
  by_cases h1 : X % M256 < 18446744073709551616
  · by_cases h2 : X % M256 < l - l / 64
    · have hc := fun W => small_in X h1 W
      rw [show forwardN l (X % M256) = X % M256 from if_pos h2, hX]
      have gg : ((X % M256 : Nat) : Int) < (l : Int) - (l : Int) / 64 := by omega
      rw [hX] at hc
      have e0 := most_wrap0 l hl
      have e1 := most_wrap l hl
      generalize X % M256 = n at *
      have HC := hideP hc
      clear hc hX h1 hl h2
      go_enter Tryd.func44, Tryd.ntmps44
      go_wp2_with fail
      refine at_world_q (fun W0 hW0 => ?_)
      obtain ⟨HBx, HBW⟩ := box1 hW0
      clear hW0
      replace HBW := hideP HBW
      replace HBx := hideP HBx
      refine (HC.out _).mono ?_
      rintro e V1 ⟨rfl, hb⟩
      replace HBx := hideP ((hb.block _ (lt_of_block HBx.out)).trans HBx.out)
      replace HBW := hideP (HBW.out.trans (hb.mono HBW.out.size))
      clear hb
      go_wp2_with fail
      go_ret
      exact ⟨rfl, HBW.out⟩
    · have hc := fun W => small_in X h1 W
      rw [show forwardN l (X % M256) = l - l / 64 from if_neg h2, hX]
      have gg : ¬ ((X % M256 : Nat) : Int) < (l : Int) - (l : Int) / 64 := by omega
      rw [hX] at hc
      have e0 := most_wrap0 l hl
      have e1 := most_wrap l hl
      have e2 : ((l - l / 64 : Nat) : Int) = (l : Int) - (l : Int) / 64 := by omega
      rw [show Ending.returned (.int .u64 ((l - l / 64 : Nat) : Int)) = Ending.returned (.int .u64 ((l : Int) - (l : Int) / 64)) from by rw [e2]]
      generalize X % M256 = n at *
      have HC := hideP hc
      clear hc hX h1 hl h2 e2
      go_enter Tryd.func44, Tryd.ntmps44
      go_wp2_with fail
      refine at_world_q (fun W0 hW0 => ?_)
      obtain ⟨HBx, HBW⟩ := box1 hW0
      clear hW0
      replace HBW := hideP HBW
      replace HBx := hideP HBx
      refine (HC.out _).mono ?_
      rintro e V1 ⟨rfl, hb⟩
      replace HBx := hideP ((hb.block _ (lt_of_block HBx.out)).trans HBx.out)
      replace HBW := hideP (HBW.out.trans (hb.mono HBW.out.size))
      clear hb
      go_wp2_with fail
      go_ret
      exact ⟨rfl, HBW.out⟩
  · have hc := fun W => small_out X h1 W
    rw [show forwardN l (X % M256) = l - l / 64 from if_neg (by omega), hX]
    rw [hX] at hc
    have e0 := most_wrap0 l hl
    have e1 := most_wrap l hl
    have e2 : ((l - l / 64 : Nat) : Int) = (l : Int) - (l : Int) / 64 := by omega
    rw [show Ending.returned (.int .u64 ((l - l / 64 : Nat) : Int)) = Ending.returned (.int .u64 ((l : Int) - (l : Int) / 64)) from by rw [e2]]
    have HC := hideP hc
    clear hc hX h1 hl e2
    go_enter Tryd.func44, Tryd.ntmps44
    go_wp2_with fail
    refine at_world_q (fun W0 hW0 => ?_)
    obtain ⟨HBx, HBW⟩ := box1 hW0
    clear hW0
    replace HBW := hideP HBW
    replace HBx := hideP HBx
    refine (HC.out _).mono ?_
    rintro e V1 ⟨rfl, hb⟩
    replace HBx := hideP ((hb.block _ (lt_of_block HBx.out)).trans HBx.out)
    replace HBW := hideP (HBW.out.trans (hb.mono HBW.out.size))
    clear hb
    go_wp2_with fail
    go_ret
    exact ⟨rfl, HBW.out⟩

end Go.Proofs.YtaeadndihchbnaaDoor
