/-
  A number's words as a list; the document's and the program's Less.
-/
import Derived.Test.YtiekipkmfopdoaaBigd4
import Derived.Test.YtiekipkmfopdoaaSub4
import Derived.Test.YtiekipkmfopdoaaNum
namespace Go.Proofs.Ytiekipkmfopdoaa.W4
open Go.RowKit Go.Shelf

/-- Words behind nothing: a row of their own. -/
theorem append_words {w : World} {B : Nat} {f : Nat → Nat} (ty : Nat) (h : w.heap[B]? = some (.cells (cs f) 24 (0, 0))) :
    ∃ cap w', (Builtin.append_ #[27, 27] ty #[.slice none 0 0, .slice (some ⟨B, 0, none⟩) 4 4]).run Try.prog w = .ok (.slice (some ⟨w.heap.size, 0, none⟩) 4 cap) w' ∧ UW w' (.slice (some ⟨w.heap.size, 0, none⟩) 4 cap) f ∧ Below w.heap.size w w' := by
  obtain ⟨i0, hi, hz0, hz1, hz2⟩ := info_parts infoU'
  have hT : Try.prog.underlying 27 = some (.slice 23) := by kernel_rfl
  have hlen : ((List.range 4).map (fun j => Value.int .u64 (f j))).length = 4 := by simp
  have hone : ∀ u ∈ (List.range 4).map (fun j => Value.int .u64 (f j)), u.oneCell' = true := by
    intro v hv
    simp only [List.mem_map] at hv
    obtain ⟨x, _, rfl⟩ := hv
    rfl
  have hs : Src Try.prog i0.size 27 (.slice (some ⟨B, 0, none⟩) 4 4) 4 ((List.range 4).map (fun j => Value.int .u64 (f j))) w := by
    refine Src.ofSlice w hT ⟨B, 0, none⟩ 4 4 _ (by rw [hlen, hz1, Nat.mul_one]) (fun j v hv => ?_) hone
    simp only [List.getElem?_map, Option.map_eq_some_iff] at hv
    obtain ⟨x, hx, rfl⟩ := hv
    obtain ⟨hj, rfl⟩ := List.getElem?_eq_some_iff.1 hx
    simp only [List.length_range] at hj
    rw [List.getElem_range, add_nil]
    exact blk_cell h (get f hj)
  have hcap : Builtin.nextslicecap (0 + 4) 0 * i0.bytes ≤ 281474976710656 := by
    rw [hz2]
    decide
  have hr := run_append_grow_src (P := Try.prog) w 27 27 ty 23 i0 (.int .u64 0) hT hi hz0 none 0 0 [] (run_firstCells_none w.drew i0.size 0 0 0) (.slice (some ⟨B, 0, none⟩) 4 4) 4 _ hs (by omega) (by omega) hcap
  rw [Nat.zero_add, List.nil_append] at hr
  refine ⟨_, _, hr, ⟨_, _, rfl, by simp, fun j hj => ?_⟩, ((Below.refl _ w).drew).alloc (Nat.le_refl _) _⟩
  refine blk_cell (heap_new w.drew _) ?_
  rw [Array.getElem?_append_left (by simp [hlen, hj]), List.getElem?_toArray]
  simp [hj]

set_option maxHeartbeats 1000000 in
set_option maxRecDepth 100000 in
theorem list_any (X : Nat) (w : World) : Calls Try.prog 30 #[wv X] w fun r w' => (∃ v, r = .returned v ∧ UW w' v (limb X)) ∧ Below w.heap.size w w' := by
  unfold wv cs
  go_enter Try.func30, Try.ntmps30
  refine wp_seqH (fun K0 HK0 => ?_)
  go_wp2_with fail
  refine HK0.out _ _ ?_
  refine at_world (fun W0 hW0 => ?_)
  have hA : W0.heap[w.heap.size]? = some (.cells (cs (limb X)) 24 (0, 0)) := by
    rw [hW0]
    exact heap_new _ _
  have HBW : Hid (Below w.heap.size w W0) := by
    show Below _ _ _
    rw [hW0]
    repeat first | exact Below.refl _ _ | (refine Below.alloc ?_ (by simp <;> omega) _)
  obtain ⟨cap, w', hrun, hU, hb⟩ := append_words 27 hA
  have HU := hideP hU
  have HB := hideP hb
  clear hW0 hA hU hb
  go_wp2_with (refine wpList_append_run rfl _ _ 27 rfl rfl rfl rfl hrun ?_)
  go_ret
  exact ⟨⟨_, rfl, HU.out⟩, HBW.out.trans (HB.out.mono HBW.out.size)⟩

set_option maxHeartbeats 2000000 in
set_option maxRecDepth 100000 in
theorem rless_any (X Y : Nat) (hX : X < R) (hY : Y < R) (w : World) (u v : Value) (hu : UW w u (limb X)) (hv : UW w v (limb Y)) : Calls Try.prog 66 #[u, v] w fun r w' => r = .returned (.bool (decide (X < Y))) ∧ Below w.heap.size w w' := by
  obtain ⟨g1, c1, rfl, l1, h1⟩ := hu.ex
  obtain ⟨g2, c2, rfl, l2, h2⟩ := hv.ex
  have H1 := hideP h1
  have H2 := hideP h2
  have HXY : Hid (X < R ∧ Y < R) := ⟨hX, hY⟩
  clear h1 h2 hu hv hX hY
  go_enter Try.func66, Try.ntmps66
  go_wp2_with fail
  go_loopw [5] (fun i wr => ∃ k : Nat, k ≤ 4 ∧ i = .int .i64 ((k : Int) - 1) ∧ (∀ j, k ≤ j → j < 4 → limb X j = limb Y j) ∧ Below w.heap.size w wr) (fun i _ => (intOf i + 1).toNat)
  case atStart => exact ⟨4, Nat.le_refl _, rfl, fun j h1 h2 => absurd h2 (by omega), Below.refl _ _⟩
  case round =>
    obtain ⟨k, hk, rfl, heq, hb⟩ := hrel
    by_cases hz : 0 < k
    · have ca : wr.cell? ⟨g1, k - 1, none⟩ = some (.int .u64 (limb X (k - 1))) := (hb.cell (p := ⟨g1, k - 1, none⟩) l1).trans (H1.out _ (by omega))
      have cb : wr.cell? ⟨g2, k - 1, none⟩ = some (.int .u64 (limb Y (k - 1))) := (hb.cell (p := ⟨g2, k - 1, none⟩) l2).trans (H2.out _ (by omega))
      have HN : Hid (limb X (k - 1) ≠ limb Y (k - 1) → decide (limb X (k - 1) < limb Y (k - 1)) = decide (X < Y)) := fun hne => less_at (m := 4) (by rw [← R_eq]; exact HXY.out.1) (by rw [← R_eq]; exact HXY.out.2) (by omega) (fun j h1 h2 => heq j (by omega) h2) hne
      have e1 : (k : Int) - 1 = ((k - 1 : Nat) : Int) := by omega
      have HKS : Hid (k - 1 ≤ 4 ∧ 0 < k) := ⟨by omega, hz⟩
      have HE := hideP heq
      have HB := hideP hb
      have g3 : ((k - 1 : Nat) : Int) < 4 := by omega
      have e2 : IntKind.i64.wrap (((k - 1 : Nat) : Int) - 1) = ((k - 1 : Nat) : Int) - 1 := by rw [IntKind.wrap_i64]; omega
      rw [e1]
      by_cases hne : limb X (k - 1) = limb Y (k - 1)
      · have HE2 : Hid (∀ j, k - 1 ≤ j → j < 4 → limb X j = limb Y j) := fun j h1 h2 => by
          by_cases h3 : j = k - 1
          · rw [h3]; exact hne
          · exact heq j (by omega) h2
        rw [hne] at ca
        generalize limb Y (k - 1) = y at *
        generalize limb X (k - 1) = x at *
        generalize hk1 : k - 1 = k1 at *
        clear heq hb hk hz HN hne e1
        go_wp2_with fail
        go_region
        go_wp2_with fail
        refine ⟨⟨k1, HKS.out.1, by go_num, HE2.out, HB.out.drew⟩, ?_⟩
        have := HKS.out.2
        simp [intOf] <;> omega
      · have hne2 : ¬ ((limb X (k - 1) : Int) = (limb Y (k - 1) : Int)) := by omega
        have HR := hideP (HN.out hne)
        generalize limb X (k - 1) = x at *
        generalize limb Y (k - 1) = y at *
        generalize hk1 : k - 1 = k1 at *
        clear heq hb hk hz HN hne e1
        go_wp2_with fail
        go_region
        go_wp2_with fail
        go_region
        go_wp2
        go_ret
        refine ⟨?_, HB.out.drew.drew⟩
        rw [← HR.out]
        simp
    · have hk0 : k = 0 := by omega
      subst hk0
      have HXY2 : Hid (decide (X < Y) = false) := by
        show _ = _
        have : X = Y := by
          rw [← val_limbs HXY.out.1, ← val_limbs HXY.out.2]
          exact val_congr _ (fun j hj => heq j (by omega) hj)
        rw [this]
        simp
      have HB := hideP hb
      clear heq hb hk hz
      simp only [Int.natCast_zero, Int.zero_sub]
      go_wp2
      go_ret
      exact ⟨by rw [HXY2.out]; rfl, HB.out⟩

end Go.Proofs.Ytiekipkmfopdoaa.W4
