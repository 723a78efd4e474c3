/-
  The document's Add, Sub and Less, of lists of any length.
-/
import Derived.Test.YtiekipkmfopdoaaWds
namespace Go.Proofs.Ytiekipkmfopdoaa
open Go.RowKit Go.Shelf

set_option maxHeartbeats 2000000 in
set_option maxRecDepth 100000 in
theorem radd_raw {n : Nat} (hn : n ≤ 8) (x y : Nat → Nat) (hx : ∀ j, x j < 18446744073709551616) (hy : ∀ j, y j < 18446744073709551616) (w : World) (u v : Value) (hu : LW w u n x) (hv : LW w v n y) :
    Calls Try.prog 81 #[u, v] w fun r w' => (∃ g c : Nat, r = .returned (.tuple #[.slice (some ⟨g, 0, none⟩) n n, .int .u64 c]) ∧ ∃ f : Nat → Nat, w'.heap[g]? = some (.cells (cw n f) 23 (0, 0)) ∧ w.heap.size ≤ g ∧ (∀ j, f j < 18446744073709551616) ∧ c ≤ 1 ∧ val x n + val y n = val f n + 18446744073709551616 ^ n * c) ∧ Below w.heap.size w w' := by
  obtain ⟨g1, o1, c1, rfl, _, _, l1, h1⟩ := hu.ex
  obtain ⟨g2, o2, c2, rfl, _, _, l2, h2⟩ := hv.ex
  have H1 := hideP h1
  have H2 := hideP h2
  have HX := hideP hx
  have HY := hideP hy
  have HN := hideP hn
  have hmk := make_words w n (by omega)
  have ew : IntKind.i64.wrap (n : Int) = (n : Int) := by rw [IntKind.wrap_i64]; omega
  clear h1 h2 hu hv hx hy hn
  go_enter Try.func81, Try.ntmps81
  go_wp2_with fail
  refine at_world (fun W0 hW0 => ?_)
  have hD : W0.heap[w.heap.size]? = some (.cells (cw n (fun _ => 0)) 23 (0, 0)) := by
    rw [hW0]
    exact heap_new _ _
  have HBW : Hid (Below w.heap.size w W0) := by
    show Below _ _ _
    rw [hW0]
    repeat first | exact Below.refl _ _ | (refine Below.alloc ?_ (by simp <;> omega) _)
  have HI0 : Hid (AI W0 W0 w.heap.size n x y (fun _ => 0) 0 0) := ⟨fun _ => by decide, by simp [val], by omega, hD, But.refl _ _⟩
  clear hW0 hD hmk
  go_loopw [7, 17] (fun c i wr => ∃ (k cv : Nat) (gk : Nat → Nat), k ≤ n ∧ i = .int .i64 k ∧ c = .int .u64 cv ∧ AI W0 wr w.heap.size n x y gk k cv) (fun _ i _ => n - (intOf i).toNat)
  case atStart => exact ⟨0, 0, fun _ => 0, Nat.zero_le _, rfl, rfl, HI0.out⟩
  case round =>
    obtain ⟨k, cv, gk, hk, rfl, rfl, I⟩ := hrel
    have HI := hideP I
    clear I
    by_cases hlt : k < n
    · have hn := HN.out
      obtain ⟨s, t, d, ht, hd, e, w1, w2, hc⟩ := add_cases (x k) (y k) cv (HX.out _) (HY.out _) HI.out.c
      have ca : wr.cell? ⟨g1, o1 + k, none⟩ = some (.int .u64 (x k)) := by
        rw [HI.out.but.cell (show g1 ≠ w.heap.size by omega), HBW.out.cell (p := ⟨g1, o1 + k, none⟩) l1]
        exact H1.out _ hlt
      have cb : wr.cell? ⟨g2, o2 + k, none⟩ = some (.int .u64 (y k)) := by
        rw [HI.out.but.cell (show g2 ≠ w.heap.size by omega), HBW.out.cell (p := ⟨g2, o2 + k, none⟩) l2]
        exact H2.out _ hlt
      have fr : ∀ o, wr.frozen? ⟨w.heap.size, o, none⟩ = false := fun o => blk_free HI.out.cells
      have cd := blk_cell HI.out.cells (cw_get gk hlt)
      have HP := hideP (HI.out.put (wr' := wr.drew) rfl ((But.refl _ _).drew) ht hd e)
      have hlt' : (k : Int) < n := by omega
      have e4 : IntKind.i64.wrap ((k : Int) + 1) = (k : Int) + 1 := by rw [IntKind.wrap_i64]; omega
      have HKS : Hid (k + 1 ≤ n) := hlt
      generalize x k = xk at *
      generalize y k = yk at *
      clear e ht hd hk hlt hn HI
      rcases hc with ⟨q1, q2, rfl⟩ | ⟨q1, q2, rfl⟩ | ⟨q1, q2, rfl⟩
      all_goals
        go_wp2_with fail
        go_region
        go_wp2_with fail
        refine ⟨⟨k + 1, _, _, HKS.out, by go_num, rfl, HP.out⟩, by have := HKS.out; simp [intOf]; omega⟩
    · have hkn : k = n := by omega
      have hnl : ¬ (k : Int) < n := by omega
      have HJ : Hid (AI W0 wr w.heap.size n x y gk n cv) := hkn ▸ HI.out
      clear hk hlt hkn HI
      go_wp2
      go_ret2
      exact ⟨⟨_, cv, rfl, gk, HJ.out.cells, Nat.le_refl _, HJ.out.lt, HJ.out.c, HJ.out.sum⟩, HBW.out.trans HJ.out.but.below⟩

set_option maxHeartbeats 2000000 in
set_option maxRecDepth 100000 in
theorem rsub_raw {n : Nat} (hn : n ≤ 8) (x y : Nat → Nat) (hx : ∀ j, x j < 18446744073709551616) (hy : ∀ j, y j < 18446744073709551616) (w : World) (u v : Value) (hu : LW w u n x) (hv : LW w v n y) :
    Calls Try.prog 84 #[u, v] w fun r w' => (∃ g c : Nat, r = .returned (.tuple #[.slice (some ⟨g, 0, none⟩) n n, .int .u64 c]) ∧ ∃ f : Nat → Nat, w'.heap[g]? = some (.cells (cw n f) 23 (0, 0)) ∧ w.heap.size ≤ g ∧ (∀ j, f j < 18446744073709551616) ∧ c ≤ 1 ∧ val x n + 18446744073709551616 ^ n * c = val f n + val y n) ∧ Below w.heap.size w w' := by
  obtain ⟨g1, o1, c1, rfl, _, _, l1, h1⟩ := hu.ex
  obtain ⟨g2, o2, c2, rfl, _, _, l2, h2⟩ := hv.ex
  have H1 := hideP h1
  have H2 := hideP h2
  have HX := hideP hx
  have HY := hideP hy
  have HN := hideP hn
  have hmk := make_words w n (by omega)
  have ew : IntKind.i64.wrap (n : Int) = (n : Int) := by rw [IntKind.wrap_i64]; omega
  clear h1 h2 hu hv hx hy hn
  go_enter Try.func84, Try.ntmps84
  go_wp2_with fail
  refine at_world (fun W0 hW0 => ?_)
  have hD : W0.heap[w.heap.size]? = some (.cells (cw n (fun _ => 0)) 23 (0, 0)) := by
    rw [hW0]
    exact heap_new _ _
  have HBW : Hid (Below w.heap.size w W0) := by
    show Below _ _ _
    rw [hW0]
    repeat first | exact Below.refl _ _ | (refine Below.alloc ?_ (by simp <;> omega) _)
  have HI0 : Hid (SI W0 W0 w.heap.size n x y (fun _ => 0) 0 0) := ⟨fun _ => by decide, by simp [val], by omega, hD, But.refl _ _⟩
  clear hW0 hD hmk
  go_loopw [7, 17] (fun c i wr => ∃ (k cv : Nat) (gk : Nat → Nat), k ≤ n ∧ i = .int .i64 k ∧ c = .int .u64 cv ∧ SI W0 wr w.heap.size n x y gk k cv) (fun _ i _ => n - (intOf i).toNat)
  case atStart => exact ⟨0, 0, fun _ => 0, Nat.zero_le _, rfl, rfl, HI0.out⟩
  case round =>
    obtain ⟨k, cv, gk, hk, rfl, rfl, I⟩ := hrel
    have HI := hideP I
    clear I
    by_cases hlt : k < n
    · have hn := HN.out
      obtain ⟨s, t, d, ht, hd, e, w1, w2, hc⟩ := sub_cases (x k) (y k) cv (HX.out _) (HY.out _) HI.out.c
      have ca : wr.cell? ⟨g1, o1 + k, none⟩ = some (.int .u64 (x k)) := by
        rw [HI.out.but.cell (show g1 ≠ w.heap.size by omega), HBW.out.cell (p := ⟨g1, o1 + k, none⟩) l1]
        exact H1.out _ hlt
      have cb : wr.cell? ⟨g2, o2 + k, none⟩ = some (.int .u64 (y k)) := by
        rw [HI.out.but.cell (show g2 ≠ w.heap.size by omega), HBW.out.cell (p := ⟨g2, o2 + k, none⟩) l2]
        exact H2.out _ hlt
      have fr : ∀ o, wr.frozen? ⟨w.heap.size, o, none⟩ = false := fun o => blk_free HI.out.cells
      have cd := blk_cell HI.out.cells (cw_get gk hlt)
      have HP := hideP (HI.out.put (wr' := wr.drew.drew) rfl ((But.refl _ _).drew.drew) ht hd e)
      have hlt' : (k : Int) < n := by omega
      have e4 : IntKind.i64.wrap ((k : Int) + 1) = (k : Int) + 1 := by rw [IntKind.wrap_i64]; omega
      have HKS : Hid (k + 1 ≤ n) := hlt
      generalize x k = xk at *
      generalize y k = yk at *
      clear e ht hd hk hlt hn HI
      rcases hc with ⟨q1, q2, rfl⟩ | ⟨q1, q2, rfl⟩ | ⟨q1, q2, rfl⟩
      all_goals
        go_wp2_with fail
        go_region
        go_wp2_with fail
        go_region
        go_wp2_with fail
        refine ⟨⟨k + 1, _, _, HKS.out, by go_num, rfl, HP.out⟩, by have := HKS.out; simp [intOf]; omega⟩
    · have hkn : k = n := by omega
      have hnl : ¬ (k : Int) < n := by omega
      have HJ : Hid (SI W0 wr w.heap.size n x y gk n cv) := hkn ▸ HI.out
      clear hk hlt hkn HI
      go_wp2
      go_ret2
      exact ⟨⟨_, cv, rfl, gk, HJ.out.cells, Nat.le_refl _, HJ.out.lt, HJ.out.c, HJ.out.sum⟩, HBW.out.trans HJ.out.but.below⟩

set_option maxHeartbeats 2000000 in
set_option maxRecDepth 100000 in
theorem rlt_any {n : Nat} (hn : n ≤ 8) (X Y : Nat) (hX : X < 18446744073709551616 ^ n) (hY : Y < 18446744073709551616 ^ n) (w : World) (u v : Value) (hu : LW w u n (limb X)) (hv : LW w v n (limb Y)) : Calls Try.prog 66 #[u, v] w fun r w' => r = .returned (.bool (decide (X < Y))) ∧ Below w.heap.size w w' := by
  obtain ⟨g1, o1, c1, rfl, _, _, l1, h1⟩ := hu.ex
  obtain ⟨g2, o2, c2, rfl, _, _, l2, h2⟩ := hv.ex
  have H1 := hideP h1
  have H2 := hideP h2
  have HXY : Hid (X < 18446744073709551616 ^ n ∧ Y < 18446744073709551616 ^ n) := ⟨hX, hY⟩
  have HN := hideP hn
  have ew : IntKind.i64.wrap ((n : Int) - 1) = (n : Int) - 1 := by rw [IntKind.wrap_i64]; omega
  clear h1 h2 hu hv hX hY hn
  go_enter Try.func66, Try.ntmps66
  go_wp2_with fail
  go_loopw [5] (fun i wr => ∃ k : Nat, k ≤ n ∧ i = .int .i64 ((k : Int) - 1) ∧ (∀ j, k ≤ j → j < n → limb X j = limb Y j) ∧ Below w.heap.size w wr) (fun i _ => (intOf i + 1).toNat)
  case atStart => exact ⟨n, Nat.le_refl _, rfl, fun j h1 h2 => absurd h2 (by omega), Below.refl _ _⟩
  case round =>
    obtain ⟨k, hk, rfl, heq, hb⟩ := hrel
    have hn := HN.out
    by_cases hz : 0 < k
    · have ca : wr.cell? ⟨g1, o1 + (k - 1), none⟩ = some (.int .u64 (limb X (k - 1))) := (hb.cell (p := ⟨g1, o1 + (k - 1), none⟩) l1).trans (H1.out _ (by omega))
      have cb : wr.cell? ⟨g2, o2 + (k - 1), none⟩ = some (.int .u64 (limb Y (k - 1))) := (hb.cell (p := ⟨g2, o2 + (k - 1), none⟩) l2).trans (H2.out _ (by omega))
      have HR0 : Hid (limb X (k - 1) ≠ limb Y (k - 1) → decide (limb X (k - 1) < limb Y (k - 1)) = decide (X < Y)) := fun hne => less_at (m := n) HXY.out.1 HXY.out.2 (by omega) (fun j h1 h2 => heq j (by omega) h2) hne
      have e1 : (k : Int) - 1 = ((k - 1 : Nat) : Int) := by omega
      have HKS : Hid (k - 1 ≤ n ∧ 0 < k) := ⟨by omega, hz⟩
      have HE := hideP heq
      have HB := hideP hb
      have g3 : ((k - 1 : Nat) : Int) < n := by omega
      have e2 : IntKind.i64.wrap (((k - 1 : Nat) : Int) - 1) = ((k - 1 : Nat) : Int) - 1 := by rw [IntKind.wrap_i64]; omega
      rw [e1]
      by_cases hne : limb X (k - 1) = limb Y (k - 1)
      · have HE2 : Hid (∀ j, k - 1 ≤ j → j < n → limb X j = limb Y j) := fun j h1 h2 => by
          by_cases h3 : j = k - 1
          · rw [h3]; exact hne
          · exact heq j (by omega) h2
        rw [hne] at ca
        generalize limb Y (k - 1) = y at *
        generalize limb X (k - 1) = x at *
        generalize hk1 : k - 1 = k1 at *
        clear heq hb hk hz HR0 hne e1 hn
        go_wp2_with fail
        go_region
        go_wp2_with fail
        refine ⟨⟨k1, HKS.out.1, by go_num, HE2.out, HB.out.drew⟩, ?_⟩
        have := HKS.out.2
        simp [intOf] <;> omega
      · have hne2 : ¬ ((limb X (k - 1) : Int) = (limb Y (k - 1) : Int)) := by omega
        have HR := hideP (HR0.out hne)
        generalize limb X (k - 1) = x at *
        generalize limb Y (k - 1) = y at *
        generalize hk1 : k - 1 = k1 at *
        clear heq hb hk hz HR0 hne e1 hn
        go_wp2_with fail
        go_region
        go_wp2_with fail
        go_region
        go_wp2
        go_ret
        refine ⟨?_, HB.out.drew.drew⟩
        rw [← HR.out]
        simp
    · have hk0 : k = 0 := by omega
      subst hk0
      have HXY2 : Hid (decide (X < Y) = false) := by
        show _ = _
        have : X = Y := by
          rw [← val_limbs HXY.out.1, ← val_limbs HXY.out.2]
          exact val_congr _ (fun j hj => heq j (by omega) hj)
        rw [this]
        simp
      have HB := hideP hb
      clear heq hb hk hz hn
      simp only [Int.natCast_zero, Int.zero_sub]
      go_wp2
      go_ret
      exact ⟨by rw [HXY2.out]; rfl, HB.out⟩

end Go.Proofs.Ytiekipkmfopdoaa
