/-
  A number's words in a row; a quarter of a modulus.
-/
import Derived.Test.YtiekipkmfopdoaaRaise6
namespace Go.Proofs.Ytiekipkmfopdoaa.W6
open Go.RowKit Go.Shelf

theorem infoU : (Try.prog.info? 23).map (fun i => (i.zero, i.size, i.bytes)) = some (some (.int .u64 0), 1, 8) := by kernel_rfl

theorem make_row (W : World) : (Instr.makeSlice 27 (.int .i64 (6 : Int)) (.int .i64 (6 : Int))).run Try.prog W = .ok (.slice (some ⟨W.heap.size, 0, none⟩) 6 6) (W.alloc (.cells (cs (fun _ => 0)) 23)) := by
  have hT : Try.prog.underlying 27 = some (.slice 23) := by kernel_rfl
  obtain ⟨i0, hi, hz, hs, hb⟩ := info_parts infoU
  have := run_makeSlice (P := Try.prog) (w := W) 27 23 i0 (.int .u64 0) hT hi hz .i64 .i64 6 6 (by decide) (by decide) (by rw [hs]; decide) (by rw [hb]; decide) (by decide)
  have e : madeCells (Value.int IntKind.u64 0).cells (Int.toNat 6 * 1) = cs (fun _ => 0) := by kernel_rfl
  rw [this, hs, e]
  rfl

set_option maxHeartbeats 2000000 in
set_option maxRecDepth 100000 in
theorem words_any (E : Nat) (w : World) : Calls Try.prog 97 #[wv E] w fun r w' => (∃ v, r = .returned v ∧ US w' v 6 (limb E)) ∧ Below w.heap.size w w' := by
  unfold wv cs
  have hmk := make_row (w.alloc (.cells #[.int .u64 (limb E 0), .int .u64 (limb E 1), .int .u64 (limb E 2), .int .u64 (limb E 3), .int .u64 (limb E 4), .int .u64 (limb E 5)] 29 (0, 0)))
  unfold cs at hmk
  go_enter Try.func97, Try.ntmps97
  go_wp2_with fail
  refine at_world (fun W0 hW0 => ?_)
  have hA : W0.heap[w.heap.size]? = some (.cells (cs (limb E)) 29 (0, 0)) := by
    rw [hW0]
    exact (heap_old _ _ (by simp)).trans (heap_new _ _)
  have hG : W0.heap[w.heap.size + 1]? = some (.cells (cs (fun _ => 0)) 23 (0, 0)) := by
    rw [hW0]
    exact heap_new1 _ _ _
  have HBW : Hid (Below w.heap.size w W0) := by
    show Below _ _ _
    rw [hW0]
    repeat first | exact Below.refl _ _ | (refine Below.alloc ?_ (by simp <;> omega) _)
  have HA := hideP hA
  have HG := hideP hG
  clear hW0 hA hG hmk
  go_loopw [10] (fun i wr => ∃ k : Nat, k ≤ 6 ∧ i = .int .i64 k ∧ wr.heap[w.heap.size + 1]? = some (.cells (cs (fun j => if j < k then limb E j else 0)) 23 (0, 0)) ∧ But (w.heap.size + 1) W0 wr) (fun i _ => 6 - (intOf i).toNat)
  case atStart => exact ⟨0, Nat.zero_le _, rfl, HG.out, But.refl _ _⟩
  case round =>
    obtain ⟨k, hk, rfl, hg, hb⟩ := hrel
    by_cases hlt : k < 6
    · have ca := (hb.cell (o := k) (show w.heap.size ≠ w.heap.size + 1 by omega)).trans (blk_cell HA.out (get (limb E) hlt))
      have cg := blk_cell hg (get _ hlt)
      have fr : ∀ o, wr.frozen? ⟨w.heap.size + 1, o, none⟩ = false := fun o => blk_free hg
      have hlt' : (k : Int) < 6 := by omega
      have e4 : IntKind.i64.wrap ((k : Int) + 1) = (k : Int) + 1 := by rw [IntKind.wrap_i64]; omega
      have h3 := blk_set (o := k) hg (.int .u64 (limb E k))
      rw [set _ _ hlt, cs_congr (g := fun j => if j < k + 1 then limb E j else 0) (fun j hj => by
        by_cases h1 : j = k
        · rw [if_pos h1, if_pos (by omega), h1]
        · rw [if_neg h1]
          by_cases h2 : j < k
          · rw [if_pos h2, if_pos (by omega)]
          · rw [if_neg h2, if_neg (by omega)])] at h3
      have H3 := hideP h3
      have HB := hideP hb
      have HKS : Hid (k + 1 ≤ 6) := hlt
      clear hg hb hk hlt h3
      go_wp2_with fail
      exact ⟨⟨k + 1, HKS.out, by go_num, H3.out, HB.out.set _ _⟩, by have := HKS.out; simp [intOf]; omega⟩
    · have hkn : k = 6 := by omega
      have hnl : ¬ (k : Int) < 6 := by omega
      rw [hkn, cs_congr (g := limb E) (fun j hj => by rw [if_pos hj])] at hg
      have H3 := hideP hg
      have HB := hideP hb
      clear hg hb hk hlt hkn
      go_wp2
      go_ret
      refine ⟨⟨_, rfl, limb_lt E, by decide, _, _, rfl, Or.inr ⟨_, rfl, lt_of_block H3.out, fun j hj => blk_cell H3.out (get _ hj)⟩⟩, HBW.out.trans (HB.out.below.mono (by omega))⟩

end Go.Proofs.Ytiekipkmfopdoaa.W6
