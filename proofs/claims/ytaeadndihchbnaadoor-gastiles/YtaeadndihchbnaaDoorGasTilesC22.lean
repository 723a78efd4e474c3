/-
  The chapter's first examples.
-/
import Derived.Test.YtaeadndihchbnaaDoorGasTilesC17
import Derived.Test.YtaeadndihchbnaaDoorGasTilesC21
import Derived.Test.YtaeadndihchbnaaDoorGasTilesC09
namespace Go.Proofs.YtaeadndihchbnaaDoor
open Go.RowKit Go.Shelf

theorem op_1 : opN 1 = ⟨{ data := #[65, 68, 68] }, 3, 2, 1, 0, true⟩ := by kernel_rfl

theorem grow_1 : growT 0 (0 % M256) (33 % M256) = (64, 6, 0) := by decide +kernel

theorem store_1 : storeN (1 % M256) (0 % M256) (1 % M256) true = (100, -2000) := by decide +kernel

theorem mem_1 : memN 23168 = 3195 := by decide +kernel

def exB (j : Nat) : Nat := [91, 96, 91, 91].getD j 0

theorem dest_1 : destB exB 4 3 = true := by decide +kernel

theorem ex_BS {W : World} {b : Nat} (h : W.heap[b]? = some (.cells #[.int .u8 91, .int .u8 96, .int .u8 91, .int .u8 91] 5 (0, 0))) : BS W (some ⟨b, 0, none⟩) 4 4 exB := by
  refine ⟨fun j => ?_, Nat.le_refl _, by decide, fun j hj => ⟨_, rfl, ?_⟩, fun e => by cases e⟩
  · unfold exB
    match j with
    | 0 | 1 | 2 | 3 => decide
    | j + 4 => simp
  · rw [show (⟨b, 0, none⟩ : Addr).add j = ⟨b, j, none⟩ by unfold Addr.add; by_cases e : j = 0 <;> simp [e]]
    refine blk_cell h ?_
    match j, hj with
    | 0, _ | 1, _ | 2, _ | 3, _ => rfl

set_option maxHeartbeats 4000000 in
set_option maxRecDepth 100000 in
theorem awake_any (w : World) : Calls Tryd.prog 15 #[] w fun e w' => e = .returned (.bool true) ∧ Below w.heap.size w w' := by
  have h1 := fun W => op_any 1 (by decide) W
  rw [op_1] at h1
  have h2 := fun W => grow_any 0 0 33 (by decide) W
  rw [grow_1] at h2
  have h3 := fun W => store_any 1 0 1 true W
  rw [store_1] at h3
  have h4 := fun W => memory_any 23168 (by decide) W
  rw [mem_1] at h4
  have h1 : Hid (∀ W, Calls Tryd.prog 13 #[.int .u8 1] W fun e w' => e = .returned (.tuple #[.agg #[.string { data := #[65, 68, 68] }, .int .u64 3, .int .i64 2, .int .i64 1, .int .i64 0], .bool true]) ∧ Below W.heap.size W w') := h1
  have h2 : Hid (∀ W, Calls Tryd.prog 16 #[.int .u64 0, .agg #[.int .u64 0, .int .u64 0, .int .u64 0, .int .u64 0], .agg #[.int .u64 33, .int .u64 0, .int .u64 0, .int .u64 0]] W fun e w' => e = .returned (.tuple #[.int .u64 64, .int .u64 6, .int .i64 0]) ∧ Below W.heap.size W w') := h2
  have h3 : Hid (∀ W, Calls Tryd.prog 40 #[.agg #[.int .u64 1, .int .u64 0, .int .u64 0, .int .u64 0], .agg #[.int .u64 0, .int .u64 0, .int .u64 0, .int .u64 0], .agg #[.int .u64 1, .int .u64 0, .int .u64 0, .int .u64 0], .bool true] W fun e w' => e = .returned (.tuple #[.int .u64 100, .int .i64 (-2000)]) ∧ Below W.heap.size W w') := h3
  have h4 : Hid (∀ W, Calls Tryd.prog 20 #[.int .u64 23168] W fun e w' => e = .returned (.int .u64 3195) ∧ w' = W) := h4
  go_enter Tryd.func15, Tryd.ntmps15
  go_wp2_with fail
  refine (h1.out _).mono ?_
  rintro e w1 ⟨rfl, HBW⟩
  go_wp2_with fail
  refine at_world_q (fun W0 hW0 => ?_)
  obtain ⟨HB, HB2⟩ := box1 hW0
  clear hW0
  refine (h2.out _).mono ?_
  rintro e w2 ⟨rfl, hb⟩
  replace HB := (hb.block _ (lt_of_block HB)).trans HB
  replace HBW := HBW.trans ((HB2.trans (hb.mono HB2.size)).mono HBW.size)
  clear hb HB2
  go_wp2_with fail
  refine (h3.out _).mono ?_
  rintro e w3 ⟨rfl, hb⟩
  replace HB := (hb.block _ (lt_of_block HB)).trans HB
  replace HBW := hideP (HBW.trans (hb.mono HBW.size))
  clear hb
  have c0 := blk_cell (o := 0) HB rfl
  have c1 := blk_cell (o := 1) HB rfl
  have c2 := blk_cell (o := 2) HB rfl
  have c3 := blk_cell (o := 3) HB rfl
  clear HB
  go_wp2_with fail
  refine (h4.out _).mono ?_
  rintro e w4 ⟨rfl, rfl⟩
  go_wp2_with fail
  refine at_world_q (fun W0 hW0 => ?_)
  obtain ⟨HB, HB2⟩ := box1 hW0
  clear hW0
  have hd := dest_any 3 W0 (ex_BS HB) (by decide)
  rw [dest_1] at hd
  refine hd.mono ?_
  rintro e w5 ⟨rfl, hb⟩
  replace HBW := hideP (HBW.out.trans ((HB2.trans (hb.mono HB2.size)).mono HBW.out.size))
  clear hb hd HB HB2
  go_wp2_with fail
  go_ret
  exact ⟨rfl, HBW.out⟩

end Go.Proofs.YtaeadndihchbnaaDoor
