/-
  GasRest: a call never takes all the gas there is, and at most a fifth is given back.
-/
import Derived.Test.YtaeadndihchbnaaDoorGasRestC20
import Derived.Test.YtaeadndihchbnaaDoorGasRestC21
namespace Go.Proofs.YtaeadndihchbnaaDoor
open Go.RowKit Go.Shelf

set_option maxHeartbeats 4000000 in
set_option maxRecDepth 100000 in
theorem gasRest_walk (l : Nat) (hl : l < 18446744073709551616) (X : Nat) (_ : X < M256) (r : Int) (hr : -9223372036854775808 ≤ r ∧ r ≤ 9223372036854775807) (w : World) : Calls Tryd.prog 11 #[.int .u64 l, wv X, .int .i64 r] w fun e w' => e = .returned (.bool true) ∧ Below w.heap.size w w' := by
  by_cases h : r < 0
  · obtain ⟨x0, x1, x2, x3, hX⟩ := wv_form X
    have hc := fun W => forward_any l X hl W
    have hc2 := fun W => pureB (refund_any l r hl hr W)
    have hf := forward_rest l (X % M256)
    have hg := refund_rest l r
    rw [hX] at hc ⊢
    generalize forwardN l (X % M256) = f at *
    generalize refundN l r = k at *
    have g1 : (f : Int) ≤ (l : Int) := by omega
    have e1 : IntKind.u64.wrap ((l : Int) - (f : Int)) = (l : Int) - (f : Int) := by rw [IntKind.wrap_u64]; omega
    have e2 : IntKind.u64.wrap ((l : Int) / 64) = (l : Int) / 64 := by rw [IntKind.wrap_u64]; omega
    have e3 : IntKind.u64.wrap ((l : Int) / 5) = (l : Int) / 5 := by rw [IntKind.wrap_u64]; omega
    have g2 : (l : Int) / 64 ≤ (l : Int) - (f : Int) := by omega
    have g3 : (k : Int) ≤ (l : Int) / 5 := by omega
    have g4 : r < 0 := h
    have HC := hideP hc
    have HC2 := hideP hc2
    have HAW := hideP (fun W => awake_any W)
    clear hX hc hc2 hf hg hl hr h
    go_enter Tryd.func11, Tryd.ntmps11
    go_wp2_with fail
    refine at_world_q (fun W0 hW0 => ?_)
    obtain ⟨HBx, HBW⟩ := box1 hW0
    clear hW0
    replace HBW := hideP HBW
    replace HBx := hideP HBx
    refine (HC.out _).mono ?_
    rintro e V1 ⟨rfl, hb⟩
    replace HBx := hideP ((hb.block _ (lt_of_block HBx.out)).trans HBx.out)
    replace HBW := hideP (HBW.out.trans (hb.mono HBW.out.size))
    clear hb
    go_wp2_with fail
    refine (HC2.out _).mono ?_
    rintro e V2 ⟨rfl, hb⟩
    replace HBx := hideP ((hb.block _ (lt_of_block HBx.out)).trans HBx.out)
    replace HBW := hideP (HBW.out.trans (hb.mono HBW.out.size))
    clear hb
    go_wp2_with fail
    refine (HAW.out _).mono ?_
    rintro e V3 ⟨rfl, hb⟩
    replace HBx := hideP ((hb.block _ (lt_of_block HBx.out)).trans HBx.out)
    replace HBW := hideP (HBW.out.trans (hb.mono HBW.out.size))
    clear hb
    go_wp2_with fail
    go_ret
    exact ⟨rfl, HBW.out⟩
  · obtain ⟨x0, x1, x2, x3, hX⟩ := wv_form X
    have hc := fun W => forward_any l X hl W
    have hc2 := fun W => pureB (refund_any l r hl hr W)
    have hf := forward_rest l (X % M256)
    have hg := refund_rest l r
    rw [hX] at hc ⊢
    generalize forwardN l (X % M256) = f at *
    generalize refundN l r = k at *
    have g1 : (f : Int) ≤ (l : Int) := by omega
    have e1 : IntKind.u64.wrap ((l : Int) - (f : Int)) = (l : Int) - (f : Int) := by rw [IntKind.wrap_u64]; omega
    have e2 : IntKind.u64.wrap ((l : Int) / 64) = (l : Int) / 64 := by rw [IntKind.wrap_u64]; omega
    have e3 : IntKind.u64.wrap ((l : Int) / 5) = (l : Int) / 5 := by rw [IntKind.wrap_u64]; omega
    have g2 : (l : Int) / 64 ≤ (l : Int) - (f : Int) := by omega
    have g3 : (k : Int) ≤ (l : Int) / 5 := by omega
    have g4 : ¬ r < 0 := h
    have e4 : IntKind.u64.wrap r = r := by rw [IntKind.wrap_u64]; omega
    have g5 : (k : Int) ≤ r := by omega
    have HC := hideP hc
    have HC2 := hideP hc2
    have HAW := hideP (fun W => awake_any W)
    clear hX hc hc2 hf hg hl hr h
    go_enter Tryd.func11, Tryd.ntmps11
    go_wp2_with fail
    refine at_world_q (fun W0 hW0 => ?_)
    obtain ⟨HBx, HBW⟩ := box1 hW0
    clear hW0
    replace HBW := hideP HBW
    replace HBx := hideP HBx
    refine (HC.out _).mono ?_
    rintro e V1 ⟨rfl, hb⟩
    replace HBx := hideP ((hb.block _ (lt_of_block HBx.out)).trans HBx.out)
    replace HBW := hideP (HBW.out.trans (hb.mono HBW.out.size))
    clear hb
    go_wp2_with fail
    refine (HC2.out _).mono ?_
    rintro e V2 ⟨rfl, hb⟩
    replace HBx := hideP ((hb.block _ (lt_of_block HBx.out)).trans HBx.out)
    replace HBW := hideP (HBW.out.trans (hb.mono HBW.out.size))
    clear hb
    go_wp2_with fail
    refine (HAW.out _).mono ?_
    rintro e V3 ⟨rfl, hb⟩
    replace HBx := hideP ((hb.block _ (lt_of_block HBx.out)).trans HBx.out)
    replace HBW := hideP (HBW.out.trans (hb.mono HBW.out.size))
    clear hb
    go_wp2_with fail
    go_ret
    exact ⟨rfl, HBW.out⟩

end Go.Proofs.YtaeadndihchbnaaDoor
