/-
  Differences and sums of numbers of 6 limbs.
-/
import Derived.Test.YtiekipkmfopdoaaCel6
import Derived.Test.YtiekipkmfopdoaaEndk
namespace Go.Proofs.Ytiekipkmfopdoaa.W6
open Go.RowKit Go.Shelf

/-- Where a difference has come to. -/
structure MI (W wr : World) (D : Nat) (x y gk : Nat → Nat) (k c : Nat) : Prop where
  lt : ∀ j, gk j < 18446744073709551616
  sum : val x k + 18446744073709551616 ^ k * c = val gk k + val y k
  c : c ≤ 1
  cells : wr.heap[D]? = some (.cells (cs gk) 29 (0, 0))
  but : But D W wr

theorem MI.put {W wr : World} {D : Nat} {x y gk : Nat → Nat} {k c s c' : Nat} (I : MI W wr D x y gk k c) (hk : k < 6) (hs : s < 18446744073709551616) (hc : c' ≤ 1)
    (e : x k + 18446744073709551616 * c' = s + y k + c) :
    MI W (wr.drew.setCell ⟨D, k, none⟩ (.int .u64 s)) D x y (fun i => if i = k then s else gk i) (k + 1) c' := by
  refine ⟨fun j => ?_, ?_, hc, ?_, I.but.drew.set _ _⟩
  · split
    · exact hs
    · exact I.lt j
  · have h1 : val (fun j => if j = k then s else gk j) k = val gk k := val_congr k (fun j hj => by rw [if_neg (by omega)])
    show val x k + x k * 18446744073709551616 ^ k + 18446744073709551616 ^ (k + 1) * c' = val (fun j => if j = k then s else gk j) k + (if k = k then s else gk k) * 18446744073709551616 ^ k + (val y k + y k * 18446744073709551616 ^ k)
    rw [h1, if_pos rfl, Nat.pow_succ]
    have h2 := I.sum
    grind
  · have h3 : wr.drew.heap[D]? = some (.cells (cs gk) 29 (0, 0)) := I.cells
    have := blk_set (o := k) h3 (.int .u64 s)
    rw [set gk s hk] at this
    exact this

set_option maxHeartbeats 2000000 in
set_option maxRecDepth 100000 in
theorem minus_raw (x y : Nat → Nat) (hx : ∀ j, x j < 18446744073709551616) (hy : ∀ j, y j < 18446744073709551616) (w : World) :
    Calls Try.prog 101 #[.agg (cs x), .agg (cs y)] w fun e w' => ∃ (g : Nat → Nat) (c : Nat), e = .returned (.tuple #[.agg (cs g), .int .u64 c]) ∧ (∀ j, g j < 18446744073709551616) ∧ c ≤ 1 ∧
      val x 6 + R * c = val g 6 + val y 6 ∧ Below w.heap.size w w' := by
  have HX := hideP hx
  have HY := hideP hy
  clear hx hy
  unfold cs
  go_enter Try.func101, Try.ntmps101
  go_wp2_with fail
  rename_i Q' K hK
  have HK := hideP hK
  clear hK
  refine at_world (fun W0 hW0 => ?_)
  have hA : W0.heap[w.heap.size]? = some (.cells (cs x) 29 (0, 0)) := by
    rw [hW0]
    exact (heap_old _ _ (by simp <;> omega)).trans ((heap_old _ _ (by simp)).trans (heap_new _ _))
  have hB : W0.heap[w.heap.size + 1]? = some (.cells (cs y) 29 (0, 0)) := by
    rw [hW0]
    exact (heap_old _ _ (by simp)).trans (heap_new1 _ _ _)
  have hD : W0.heap[w.heap.size + 1 + 1]? = some (.cells (cs (fun _ => 0)) 29 (0, 0)) := by
    rw [hW0]
    exact heap_new2 _ _ _ _
  have HBW : Hid (Below w.heap.size w W0) := by
    show Below _ _ _
    rw [hW0]
    repeat first | exact Below.refl _ _ | (refine Below.alloc ?_ (by simp <;> omega) _)
  clear hW0
  have HI0 : Hid (MI W0 W0 (w.heap.size + 1 + 1) x y (fun _ => 0) 0 0) := ⟨fun _ => by decide, by simp [val], by omega, hD, But.refl _ _⟩
  have HA := hideP hA
  have HB := hideP hB
  clear hA hB hD
  go_loopw [5, 9] (fun c i wr => ∃ (k cv : Nat) (gk : Nat → Nat), k ≤ 6 ∧ i = .int .i64 k ∧ c = .int .u64 cv ∧ MI W0 wr (w.heap.size + 1 + 1) x y gk k cv) (fun _ i _ => 6 - (intOf i).toNat)
  case atStart => exact ⟨0, 0, fun _ => 0, Nat.zero_le _, rfl, rfl, HI0.out⟩
  case round =>
    obtain ⟨k, cv, gk, hk, rfl, rfl, I⟩ := hrel
    have HI := hideP I
    clear I
    by_cases hlt : k < 6
    · obtain ⟨s, c', hs, hc', e2, hsb⟩ := sub64_ex (x k) (y k) cv (HX.out _) (HY.out _) HI.out.c
      have ca := (HI.out.but.cell (o := k) (show w.heap.size ≠ w.heap.size + 1 + 1 by omega)).trans (blk_cell HA.out (get x hlt))
      have cb := (HI.out.but.cell (o := k) (show w.heap.size + 1 ≠ w.heap.size + 1 + 1 by omega)).trans (blk_cell HB.out (get y hlt))
      have fr : ∀ o, wr.frozen? ⟨w.heap.size + 1 + 1, o, none⟩ = false := fun o => blk_free HI.out.cells
      have cd := blk_cell HI.out.cells (get gk hlt)
      have HN := hideP (HI.out.put hlt hs hc' e2)
      have hlt' : (k : Int) < 6 := by omega
      have e4 : IntKind.i64.wrap ((k : Int) + 1) = (k : Int) + 1 := by rw [IntKind.wrap_i64]; omega
      have HKS : Hid (k + 1 ≤ 6) := hlt
      clear e2 hs hc' hk hlt
      go_wp2_with fail
      go_region
      go_wp2_with fail
      refine ⟨⟨k + 1, c', _, HKS.out, by go_num, rfl, HN.out⟩, by have := HKS.out; simp [intOf]; omega⟩
    · have hkn : k = 6 := by omega
      have hnl : ¬ (k : Int) < 6 := by omega
      have HJ : Hid (MI W0 wr (w.heap.size + 1 + 1) x y gk 6 cv) := hkn ▸ HI.out
      clear hk hlt hkn HI
      go_wp2_with fail
      refine HK.out _ _ ?_
      refine endKeepQ (fun _ _ h => h) rfl rfl rfl (by decide) (by decide) (by decide) (by decide) (by decide) (by show 26 < 28; decide) (by show 27 < 28; decide) (by show 5 < 28; decide) rfl under rfl (info _) (one _) (rangeOf HJ.out.cells) (thereOf HJ.out.cells) ?_
      intro wS hBut
      refine ⟨gk, cv, rfl, HJ.out.lt, HJ.out.c, by rw [R_eq]; exact HJ.out.sum, HBW.out.trans ((HJ.out.but.below.trans hBut.below).mono (by omega))⟩
/-- Where a sum has come to. -/
structure PI (W wr : World) (D : Nat) (x y gk : Nat → Nat) (k c : Nat) : Prop where
  lt : ∀ j, gk j < 18446744073709551616
  sum : val x k + val y k = val gk k + 18446744073709551616 ^ k * c
  c : c ≤ 1
  cells : wr.heap[D]? = some (.cells (cs gk) 29 (0, 0))
  but : But D W wr

theorem PI.put {W wr : World} {D : Nat} {x y gk : Nat → Nat} {k c s c' : Nat} (I : PI W wr D x y gk k c) (hk : k < 6) (hs : s < 18446744073709551616) (hc : c' ≤ 1)
    (e : x k + y k + c = s + 18446744073709551616 * c') :
    PI W (wr.drew.setCell ⟨D, k, none⟩ (.int .u64 s)) D x y (fun i => if i = k then s else gk i) (k + 1) c' := by
  refine ⟨fun j => ?_, ?_, hc, ?_, I.but.drew.set _ _⟩
  · split
    · exact hs
    · exact I.lt j
  · have h1 : val (fun j => if j = k then s else gk j) k = val gk k := val_congr k (fun j hj => by rw [if_neg (by omega)])
    show val x k + x k * 18446744073709551616 ^ k + (val y k + y k * 18446744073709551616 ^ k) = val (fun j => if j = k then s else gk j) k + (if k = k then s else gk k) * 18446744073709551616 ^ k + 18446744073709551616 ^ (k + 1) * c'
    rw [h1, if_pos rfl, Nat.pow_succ]
    have h2 := I.sum
    grind
  · have h3 : wr.drew.heap[D]? = some (.cells (cs gk) 29 (0, 0)) := I.cells
    have := blk_set (o := k) h3 (.int .u64 s)
    rw [set gk s hk] at this
    exact this

set_option maxHeartbeats 2000000 in
set_option maxRecDepth 100000 in
theorem plus_raw (x y : Nat → Nat) (hx : ∀ j, x j < 18446744073709551616) (hy : ∀ j, y j < 18446744073709551616) (w : World) :
    Calls Try.prog 112 #[.agg (cs x), .agg (cs y)] w fun e w' => ∃ (g : Nat → Nat) (c : Nat), e = .returned (.tuple #[.agg (cs g), .int .u64 c]) ∧ (∀ j, g j < 18446744073709551616) ∧ c ≤ 1 ∧
      val x 6 + val y 6 = val g 6 + R * c ∧ Below w.heap.size w w' := by
  have HX := hideP hx
  have HY := hideP hy
  clear hx hy
  unfold cs
  go_enter Try.func112, Try.ntmps112
  go_wp2_with fail
  rename_i Q' K hK
  have HK := hideP hK
  clear hK
  refine at_world (fun W0 hW0 => ?_)
  have hA : W0.heap[w.heap.size]? = some (.cells (cs x) 29 (0, 0)) := by
    rw [hW0]
    exact (heap_old _ _ (by simp <;> omega)).trans ((heap_old _ _ (by simp)).trans (heap_new _ _))
  have hB : W0.heap[w.heap.size + 1]? = some (.cells (cs y) 29 (0, 0)) := by
    rw [hW0]
    exact (heap_old _ _ (by simp)).trans (heap_new1 _ _ _)
  have hD : W0.heap[w.heap.size + 1 + 1]? = some (.cells (cs (fun _ => 0)) 29 (0, 0)) := by
    rw [hW0]
    exact heap_new2 _ _ _ _
  have HBW : Hid (Below w.heap.size w W0) := by
    show Below _ _ _
    rw [hW0]
    repeat first | exact Below.refl _ _ | (refine Below.alloc ?_ (by simp <;> omega) _)
  clear hW0
  have HI0 : Hid (PI W0 W0 (w.heap.size + 1 + 1) x y (fun _ => 0) 0 0) := ⟨fun _ => by decide, by simp [val], by omega, hD, But.refl _ _⟩
  have HA := hideP hA
  have HB := hideP hB
  clear hA hB hD
  go_loopw [5, 9] (fun c i wr => ∃ (k cv : Nat) (gk : Nat → Nat), k ≤ 6 ∧ i = .int .i64 k ∧ c = .int .u64 cv ∧ PI W0 wr (w.heap.size + 1 + 1) x y gk k cv) (fun _ i _ => 6 - (intOf i).toNat)
  case atStart => exact ⟨0, 0, fun _ => 0, Nat.zero_le _, rfl, rfl, HI0.out⟩
  case round =>
    obtain ⟨k, cv, gk, hk, rfl, rfl, I⟩ := hrel
    have HI := hideP I
    clear I
    by_cases hlt : k < 6
    · obtain ⟨s, c', hs, hc', e2, hsb⟩ := add64_ex (x k) (y k) cv (HX.out _) (HY.out _) HI.out.c
      have ca := (HI.out.but.cell (o := k) (show w.heap.size ≠ w.heap.size + 1 + 1 by omega)).trans (blk_cell HA.out (get x hlt))
      have cb := (HI.out.but.cell (o := k) (show w.heap.size + 1 ≠ w.heap.size + 1 + 1 by omega)).trans (blk_cell HB.out (get y hlt))
      have fr : ∀ o, wr.frozen? ⟨w.heap.size + 1 + 1, o, none⟩ = false := fun o => blk_free HI.out.cells
      have cd := blk_cell HI.out.cells (get gk hlt)
      have HN := hideP (HI.out.put hlt hs hc' e2)
      have hlt' : (k : Int) < 6 := by omega
      have e4 : IntKind.i64.wrap ((k : Int) + 1) = (k : Int) + 1 := by rw [IntKind.wrap_i64]; omega
      have HKS : Hid (k + 1 ≤ 6) := hlt
      clear e2 hs hc' hk hlt
      go_wp2_with fail
      go_region
      go_wp2_with fail
      refine ⟨⟨k + 1, c', _, HKS.out, by go_num, rfl, HN.out⟩, by have := HKS.out; simp [intOf]; omega⟩
    · have hkn : k = 6 := by omega
      have hnl : ¬ (k : Int) < 6 := by omega
      have HJ : Hid (PI W0 wr (w.heap.size + 1 + 1) x y gk 6 cv) := hkn ▸ HI.out
      clear hk hlt hkn HI
      go_wp2_with fail
      refine HK.out _ _ ?_
      refine endKeepQ (fun _ _ h => h) rfl rfl rfl (by decide) (by decide) (by decide) (by decide) (by decide) (by show 26 < 28; decide) (by show 27 < 28; decide) (by show 5 < 28; decide) rfl under rfl (info _) (one _) (rangeOf HJ.out.cells) (thereOf HJ.out.cells) ?_
      intro wS hBut
      refine ⟨gk, cv, rfl, HJ.out.lt, HJ.out.c, by rw [R_eq]; exact HJ.out.sum, HBW.out.trans ((HJ.out.but.below.trans hBut.below).mono (by omega))⟩
/-- Whether one is below the other, as a limb. -/
def less1 (X Y : Nat) : Nat := if X < Y then 1 else 0

theorem minus_any (X Y : Nat) (hX : X < R) (hY : Y < R) (w : World) :
    Calls Try.prog 101 #[wv X, wv Y] w fun e w' => e = .returned (.tuple #[wv (X + R * less1 X Y - Y), .int .u64 (less1 X Y)]) ∧ Below w.heap.size w w' := by
  refine (minus_raw (limb X) (limb Y) (limb_lt X) (limb_lt Y) w).mono ?_
  rintro e w' ⟨g, c, rfl, hg, hc, hs, hb⟩
  refine ⟨?_, hb⟩
  rw [val_limbs hX, val_limbs hY] at hs
  have hl := val_ltR (fun j _ => hg j)
  rw [wv_val (fun j _ => hg j)]
  generalize val g 6 = Z at hs hl
  have hR : c = less1 X Y ∧ Z = X + R * less1 X Y - Y := by
    unfold less1
    have hc' : c = 0 ∨ c = 1 := by omega
    rcases hc' with rfl | rfl
    · rw [if_neg (by omega)]; omega
    · rw [if_pos (by omega)]; omega
  rw [hR.1, hR.2]

theorem minus_lt {X Y : Nat} (hX : X < R) (hY : Y < R) : X + R * less1 X Y - Y < R := by
  unfold less1; split <;> omega

theorem plus_any (X Y : Nat) (hX : X < R) (hY : Y < R) (w : World) :
    Calls Try.prog 112 #[wv X, wv Y] w fun e w' => e = .returned (.tuple #[wv ((X + Y) % R), .int .u64 ((X + Y) / R : Nat)]) ∧ Below w.heap.size w w' := by
  refine (plus_raw (limb X) (limb Y) (limb_lt X) (limb_lt Y) w).mono ?_
  rintro e w' ⟨g, c, rfl, hg, hc, hs, hb⟩
  refine ⟨?_, hb⟩
  rw [val_limbs hX, val_limbs hY] at hs
  have hl := val_ltR (fun j _ => hg j)
  rw [wv_val (fun j _ => hg j)]
  generalize val g 6 = Z at hs hl
  have h1 : (X + Y) % R = Z := by rw [hs, Nat.add_mul_mod_self_left, Nat.mod_eq_of_lt hl]
  have h2 : (X + Y) / R = c := by rw [hs, Nat.add_mul_div_left _ _ R_pos, Nat.div_eq_of_lt hl, Nat.zero_add]
  rw [h1, h2]

end Go.Proofs.Ytiekipkmfopdoaa.W6
