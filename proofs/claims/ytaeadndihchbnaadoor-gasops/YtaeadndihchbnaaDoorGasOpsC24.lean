/-
  GasOps: each opcode has the name, the price and the effect on the stack that the document gives it, or is none.
-/
import Derived.Test.YtaeadndihchbnaaDoorGasOpsC20
import Derived.Test.YtaeadndihchbnaaDoorGasOpsC23
namespace Go.Proofs.YtaeadndihchbnaaDoor
open Go.RowKit Go.Shelf

set_option maxHeartbeats 8000000 in
set_option maxRecDepth 100000 in
theorem gasOps_walk (o : Nat) (h : o < 256) (w : World) : Calls Tryd.prog 3 #[.int .u8 o] w fun e w' => e = .returned (.bool true) ∧ Below w.heap.size w w' := by
  have h1 := fun W => op_any o h W
  have h2 := fun W => rop_any o h W
  rw [← same_eq (ops_same o h)] at h2
  generalize opN o = r at *
  obtain ⟨nm, gs, pp, qq, dd, bb⟩ := r
  unfold OpR.val at h1 h2
  dsimp only at h1 h2
  have H1 := hideP h1
  have H2 := hideP h2
  have HAW := hideP (fun W => awake_any W)
  clear h1 h2 h
  go_enter Tryd.func3, Tryd.ntmps3
  go_wp2_with fail
  refine (H1.out _).mono ?_
  rintro e W1 ⟨rfl, HBW⟩
  go_wp2_with fail
  refine at_world_q (fun W2 hW2 => ?_)
  obtain ⟨HA, HB2⟩ := box1 hW2
  clear hW2
  refine (H2.out _).mono ?_
  rintro e W3 ⟨rfl, hb⟩
  have hlA := lt_of_block HA
  replace HA := (hb.block _ hlA).trans HA
  replace HBW := HBW.trans ((HB2.trans (hb.mono HB2.size)).mono HBW.size)
  have hsA := lt_of_block HA
  clear hb HB2 hlA
  generalize W1.heap.size = A at *
  have a0 := blk_cell (o := 0) HA rfl
  have a1 := blk_cell (o := 1) HA rfl
  have a2 := blk_cell (o := 2) HA rfl
  have a3 := blk_cell (o := 3) HA rfl
  have a4 := blk_cell (o := 4) HA rfl
  have HBW' := hideP (fun o => HBW.alloc HBW.size o)
  clear HA HBW
  go_wp2_with fail
  refine (HAW.out _).mono ?_
  rintro e W5 ⟨rfl, hb⟩
  have HBW := hideP ((HBW'.out _).trans (hb.mono (HBW'.out _).size))
  clear hb HBW'
  go_wp2_with fail
  go_ret
  exact ⟨rfl, HBW.out⟩

end Go.Proofs.YtaeadndihchbnaaDoor
