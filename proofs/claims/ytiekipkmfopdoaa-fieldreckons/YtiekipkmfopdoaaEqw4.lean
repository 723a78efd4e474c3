/-
  Arrays of 4 words: out of slices; compared.
-/
import Derived.Test.YtiekipkmfopdoaaHexw4
namespace Go.Proofs.Ytiekipkmfopdoaa.W4
open Go.RowKit Go.Shelf

theorem eq_el9 (x y : Int) (W : World) : (Op.equalIn 9999 23 (.int .u64 x) (.int .u64 y)).run Try.prog W = .ok (x == y) W := by
  unfold Op.equalIn
  simp [go_sem]

theorem eq_lits9 (a0 a1 a2 a3 b0 b1 b2 b3 : Int) (W : World) : (Op.equalIn 10000 24 (.agg #[.int .u64 a0, .int .u64 a1, .int .u64 a2, .int .u64 a3]) (.agg #[.int .u64 b0, .int .u64 b1, .int .u64 b2, .int .u64 b3])).run Try.prog W = .ok (a0 == b0 && (a1 == b1 && (a2 == b2 && (a3 == b3)))) W := by
  unfold Op.equalIn
  simp [go_sem, List.range', eq_el9]
  by_cases h0 : a0 = b0 <;> by_cases h1 : a1 = b1 <;> by_cases h2 : a2 = b2 <;> by_cases h3 : a3 = b3 <;> simp [go_sem, h0, h1, h2, h3]

theorem eq_wv9 {X Y : Nat} (hX : X < R) (hY : Y < R) (W : World) : (Op.equalIn 10000 24 (wv X) (wv Y)).run Try.prog W = .ok (decide (X = Y)) W := by
  refine (eq_lits9 (limb X 0 : Int) (limb X 1 : Int) (limb X 2 : Int) (limb X 3 : Int) (limb Y 0 : Int) (limb Y 1 : Int) (limb Y 2 : Int) (limb Y 3 : Int) W).trans ?_
  congr 1
  rw [Bool.eq_iff_iff, decide_eq_true_eq]
  simp only [Bool.and_eq_true, beq_iff_eq]
  constructor
  · rintro ⟨h0, h1, h2, h3⟩
    rw [← val_limbs hX, ← val_limbs hY]
    refine val_congr _ (fun j hj => ?_)
    match j, hj with
    | 0, _ => omega
    | 1, _ => omega
    | 2, _ => omega
    | 3, _ => omega
    | k + 4, h => exact absurd h (by omega)
  · rintro rfl
    exact ⟨rfl, rfl, rfl, rfl⟩

theorem eq_same {X : Nat} (hX : X < R) (W : World) : (Op.equalIn 10000 24 (.agg (cs (limb X))) (.agg (cs (limb X)))).run Try.prog W = .ok true W := by
  have := eq_wv9 hX hX W
  rw [decide_eq_true rfl] at this
  exact this

theorem arrayAt_row (g : Nat) (W : World) : (Instr.arrayAt 24 (.slice (some ⟨g, 0, none⟩) 4 4)).run Try.prog W = .ok (.pointer (some ⟨g, 0, none⟩)) W := by
  simp [Instr.arrayAt, run_underlying under]

set_option maxHeartbeats 400000 in
set_option maxRecDepth 100000 in
theorem array_any (f : Nat → Nat) (g : Nat) (w : World) (hg : w.heap[g]? = some (.cells (cs f) 23 (0, 0))) : Calls Try.prog 13 #[.slice (some ⟨g, 0, none⟩) 4 4] w fun r w' => r = .returned (.agg (cs f)) ∧ Below w.heap.size w w' := by
  have HG := hideP hg
  have hlt := lt_of_block hg
  clear hg
  go_enter Try.func13, Try.ntmps13
  refine wp_seqH (fun K0 HK0 => ?_)
  go_wp2_with fail
  refine HK0.out _ _ ?_
  refine at_world (fun W0 hW0 => ?_)
  have hD : W0.heap[w.heap.size]? = some (.cells (cs (fun _ => 0)) 24 (0, 0)) := by
    rw [hW0]
    exact heap_new _ _
  have HBW : Hid (Below w.heap.size w W0) := by
    show Below _ _ _
    rw [hW0]
    exact (Below.refl _ _).alloc (Nat.le_refl _) _
  have hg0 : W0.heap[g]? = some (.cells (cs f) 23 (0, 0)) := by
    rw [hW0]
    exact (heap_old _ _ hlt).trans HG.out
  have har := arrayAt_row g
  clear hW0
  refine wp_seqH (fun K1 HK1 => ?_)
  refine wp_region_list ?_
  refine wpList_plain rfl fun K hK => ?_
  go_simp
  refine hK _ _ ?_
  refine wpList_plain rfl fun K hK => ?_
  go_simp
  refine hK _ _ ?_
  refine wpList_load_mid rfl 24 (.tmp 4) rfl g 0 rfl (cs f).toList _ (rangeOf hg0) under rfl (info _) ?_
  refine endSlotQ HK1.out (fun _ _ h => h) rfl rfl rfl rfl under rfl (info _) (one _) (by have h1 := thereOf hD; rw [cs_size] at h1 ⊢; exact h1) ?_
  intro wS hBut
  exact ⟨rfl, HBW.out.trans hBut.below⟩

end Go.Proofs.Ytiekipkmfopdoaa.W4
