/-
  Words are a commutative ring: the walk of the law.
-/
import Derived.Test.YtpnijncoldihfaaAwake
import Derived.Test.YtpnijncoldihfaaNot
import Derived.Test.YtpnijncoldihfaaEqW
namespace Go.Proofs.Ytpnijncoldihfaa
open Go.RowKit Go.Shelf

set_option maxHeartbeats 400000 in
set_option maxRecDepth 100000 in
theorem one_any (w : World) : Calls Try.prog 81 #[] w fun e w' => e = .returned (wv 1) ∧ Below w.heap.size w w' := by
  have hv : Value.agg #[.int .u64 1, .int .u64 0, .int .u64 0, .int .u64 0] = wv 1 := rfl
  have HV := hideP hv
  clear hv
  go_enter Try.func81, Try.ntmps81
  go_wp2
  refine bodyPost_ret (v := .agg #[.int .u64 1, .int .u64 0, .int .u64 0, .int .u64 0]) (by simp [results, Try.results81, go_sem]) rfl ⟨by rw [HV.out], ?_⟩
  repeat first | exact Below.refl _ _ | apply Below.drew | (refine Below.alloc ?_ (by simp <;> omega) _) | (refine Below.setCell ?_ (by simp <;> omega) _)

set_option maxHeartbeats 400000 in
set_option maxRecDepth 100000 in
theorem most_any (w : World) : Calls Try.prog 80 #[] w fun e w' => e = .returned (wv (M256 - 1)) ∧ Below w.heap.size w w' := by
  have hv : Value.agg #[.int .u64 18446744073709551615, .int .u64 18446744073709551615, .int .u64 18446744073709551615, .int .u64 18446744073709551615] = wv (M256 - 1) := by kernel_rfl
  have HV := hideP hv
  clear hv
  go_enter Try.func80, Try.ntmps80
  go_wp2
  refine bodyPost_ret (v := .agg #[.int .u64 18446744073709551615, .int .u64 18446744073709551615, .int .u64 18446744073709551615, .int .u64 18446744073709551615]) (by simp [results, Try.results80, go_sem]) rfl ⟨by rw [HV.out], ?_⟩
  repeat first | exact Below.refl _ _ | apply Below.drew | (refine Below.alloc ?_ (by simp <;> omega) _) | (refine Below.setCell ?_ (by simp <;> omega) _)

theorem ring_back (X Y : Nat) : wv (X + Y + negN Y) = wv X := by
  apply wv_congr
  unfold negN
  have hy : Y % M256 < M256 := Nat.mod_lt _ M256_pos
  rw [Nat.add_assoc, Nat.add_mod, Nat.add_mod Y, Nat.add_mod]
  have e : (Y % M256 + (M256 - Y % M256) % M256) % M256 = 0 := by
    rw [Nat.add_mod_mod, show Y % M256 + (M256 - Y % M256) = M256 by omega, Nat.mod_self]
  rw [e]
  simp

theorem ring_most (X : Nat) : wv (M256 - 1 + negN X) = wv (M256 - 1 - X % M256) := by
  apply wv_congr
  unfold negN
  have hy : X % M256 < M256 := Nat.mod_lt _ M256_pos
  have hp := M256_pos
  rw [show M256 - 1 + (M256 - X % M256) = (M256 - 1 - X % M256) + M256 by omega, Nat.add_mod_right]

set_option maxHeartbeats 8000000 in
set_option maxRecDepth 100000 in
theorem ring_calls (X Y Z : Nat) (w : World) : Calls Try.prog 9 #[wv X, wv Y, wv Z] w fun e w' => e = .returned (.bool true) ∧ Below w.heap.size w w' := by
  obtain ⟨x0, x1, x2, x3, hx⟩ := wv_form X
  obtain ⟨y0, y1, y2, y3, hy⟩ := wv_form Y
  obtain ⟨z0, z1, z2, z3, hz⟩ := wv_form Z
  obtain ⟨j0, j1, j2, j3, hj⟩ := wv_form (X + Y)
  obtain ⟨b0, b1, b2, b3, hb⟩ := wv_form (X * Y)
  obtain ⟨s0, s1, s2, s3, hs⟩ := wv_form (X + Y + Z)
  obtain ⟨t0, t1, t2, t3, ht⟩ := wv_form (Y + Z)
  obtain ⟨p0, p1, p2, p3, hp⟩ := wv_form (X * Y * Z)
  obtain ⟨q0, q1, q2, q3, hq⟩ := wv_form (Y * Z)
  obtain ⟨d0, d1, d2, d3, hd⟩ := wv_form (X * (Y + Z))
  obtain ⟨f0, f1, f2, f3, hf⟩ := wv_form (X * Z)
  obtain ⟨n0, n1, n2, n3, hn⟩ := wv_form (M256 - 1 - X % M256)
  obtain ⟨m0, m1, m2, m3, hm⟩ := wv_form (M256 - 1)
  have c1 := fun W => add_any W X Y
  simp only [hx, hy, hj] at c1
  have Cc1 := hideP c1
  clear c1
  have c2 := fun W => mul_any X Y W
  simp only [hx, hy, hb] at c2
  have Cc2 := hideP c2
  clear c2
  have r1 := fun W => add_any W Y X
  simp only [show _ = _ from Nat.add_comm Y X] at r1
  simp only [hy, hx, hj] at r1
  have Cr1 := hideP r1
  clear r1
  have r2 := fun W => mul_any Y X W
  simp only [show _ = _ from Nat.mul_comm Y X] at r2
  simp only [hy, hx, hb] at r2
  have Cr2 := hideP r2
  clear r2
  have r3 := fun W => add_any W (X + Y) Z
  simp only [hj, hz, hs] at r3
  have Cr3 := hideP r3
  clear r3
  have r4 := fun W => add_any W Y Z
  simp only [hy, hz, ht] at r4
  have Cr4 := hideP r4
  clear r4
  have r5 := fun W => add_any W X (Y + Z)
  simp only [show _ = _ from (Nat.add_assoc X Y Z).symm] at r5
  simp only [hx, ht, hs] at r5
  have Cr5 := hideP r5
  clear r5
  have r6 := fun W => mul_any (X * Y) Z W
  simp only [hb, hz, hp] at r6
  have Cr6 := hideP r6
  clear r6
  have r7 := fun W => mul_any Y Z W
  simp only [hy, hz, hq] at r7
  have Cr7 := hideP r7
  clear r7
  have r8 := fun W => mul_any X (Y * Z) W
  simp only [show _ = _ from (Nat.mul_assoc X Y Z).symm] at r8
  simp only [hx, hq, hp] at r8
  have Cr8 := hideP r8
  clear r8
  have r10 := fun W => mul_any X (Y + Z) W
  simp only [hx, ht, hd] at r10
  have Cr10 := hideP r10
  clear r10
  have r11 := fun W => mul_any X Z W
  simp only [hx, hz, hf] at r11
  have Cr11 := hideP r11
  clear r11
  have r12 := fun W => add_any W (X * Y) (X * Z)
  simp only [show _ = _ from (Nat.mul_add X Y Z).symm] at r12
  simp only [hb, hf, hd] at r12
  have Cr12 := hideP r12
  clear r12
  have r13 := fun W => sub_any W (X + Y) Y
  simp only [ring_back X Y] at r13
  simp only [hj, hy, hx] at r13
  have Cr13 := hideP r13
  clear r13
  have r14 := fun W => not_any X W
  simp only [hx, hn] at r14
  have Cr14 := hideP r14
  clear r14
  have r16 := fun W => sub_any W (M256 - 1) X
  simp only [ring_most X] at r16
  simp only [hm, hx, hn] at r16
  have Cr16 := hideP r16
  clear r16
  have r17 := fun W => add_any W X 0
  simp only [show _ = _ from Nat.add_zero X] at r17
  have wz0 : wv 0 = .agg #[.int .u64 0, .int .u64 0, .int .u64 0, .int .u64 0] := rfl
  simp only [hx, wz0] at r17
  have Cr17 := hideP r17
  clear r17
  have r19 := fun W => mul_any X 1 W
  simp only [show _ = _ from Nat.mul_one X] at r19
  have wz1 : wv 1 = .agg #[.int .u64 1, .int .u64 0, .int .u64 0, .int .u64 0] := rfl
  simp only [hx, wz1] at r19
  have Cr19 := hideP r19
  clear r19
  have c18 := fun W => one_any W
  simp only [wz1] at c18
  have C18 := hideP c18
  clear c18
  have c15 := fun W => most_any W
  simp only [hm] at c15
  have C15 := hideP c15
  clear c15
  have C20 := hideP (fun W => awake_any W)
  have eqw := eq_words
  simp only [hx, hy, hz]
  clear hx hy hz hj hb hs ht hp hq hd hf hn hm wz0 wz1
  go_enter Try.func9, Try.ntmps9
  go_wp2_with fail
  obtain ⟨W0, HW0⟩ : ∃ W0, Hid (W0 = ((w.alloc (.cells #[.int .u64 x0, .int .u64 x1, .int .u64 x2, .int .u64 x3] 24)).alloc (.cells #[.int .u64 y0, .int .u64 y1, .int .u64 y2, .int .u64 y3] 24)).alloc (.cells #[.int .u64 z0, .int .u64 z1, .int .u64 z2, .int .u64 z3] 24)) := ⟨_, rfl⟩
  rw [← HW0.out]
  have HXB : Hid (W0.heap[w.heap.size]? = some (.cells #[.int .u64 x0, .int .u64 x1, .int .u64 x2, .int .u64 x3] 24 (0, 0))) := by
    show _ = _
    rw [HW0.out, heap_old _ _ (by simp <;> omega), heap_old _ _ (by simp)]
    exact heap_new _ _
  have HYB : Hid (W0.heap[w.heap.size + 1]? = some (.cells #[.int .u64 y0, .int .u64 y1, .int .u64 y2, .int .u64 y3] 24 (0, 0))) := by
    show _ = _
    rw [HW0.out, heap_old _ _ (by simp)]
    exact heap_new1 _ _ _
  have HZB : Hid (W0.heap[w.heap.size + 1 + 1]? = some (.cells #[.int .u64 z0, .int .u64 z1, .int .u64 z2, .int .u64 z3] 24 (0, 0))) := by
    show _ = _
    rw [HW0.out]
    exact heap_new2 _ _ _ _
  have HB0 : Hid (Below w.heap.size w W0) := by
    show Below _ _ _
    rw [HW0.out]
    exact ((((Below.refl _ w).alloc (Nat.le_refl _) _).alloc (by simp) _).alloc (by simp <;> omega) _)
  clear HW0
  go_cut [7, 8] (fun p q wx => ∃ B C : Nat, p = .pointer (some ⟨B, 0, none⟩) ∧ q = .pointer (some ⟨C, 0, none⟩) ∧ wx.heap[B]? = some (.cells #[.int .u64 j0, .int .u64 j1, .int .u64 j2, .int .u64 j3] 24 (0, 0)) ∧ wx.heap[C]? = some (.cells #[.int .u64 b0, .int .u64 b1, .int .u64 b2, .int .u64 b3] 24 (0, 0)) ∧ Below W0.heap.size W0 wx)
  case first =>
    obtain ⟨cx0, cx1, cx2, cx3⟩ := cells4 HXB.out
    obtain ⟨cy0, cy1, cy2, cy3⟩ := cells4 HYB.out
    have hlx := (Array.getElem?_eq_some_iff.1 HXB.out).1
    have hly := (Array.getElem?_eq_some_iff.1 HYB.out).1
    refine wp_region_heldS (S := fun V => Below W0.heap.size W0 V) (by kernel_rfl) (Below.refl _ _).drew (fun hS => ?_)
    refine wpAnyH_take (i := 0) (v := ?_) rfl (by kernel_rfl) (by kernel_rfl) (by kernel_rfl) (fun _ _ _ h => h) (Or.inl ⟨by kernel_rfl, ?_⟩) hS ?_
    rotate_left
    · intro V hV
      have k0 := (hV.cell (p := ⟨w.heap.size, 0, none⟩) hlx).trans cx0
      have k1 := (hV.cell (p := ⟨w.heap.size, 1, none⟩) hlx).trans cx1
      have k2 := (hV.cell (p := ⟨w.heap.size, 2, none⟩) hlx).trans cx2
      have k3 := (hV.cell (p := ⟨w.heap.size, 3, none⟩) hlx).trans cx3
      go_simp
      (try with_reducible rfl)
    simp only [Act.put, List.setIfInBounds_toArray]
    refine wpAnyH_take (i := 1) (v := ?_) rfl (by kernel_rfl) (by kernel_rfl) (by kernel_rfl) (fun _ _ _ h => h) (Or.inl ⟨by kernel_rfl, ?_⟩) hS ?_
    rotate_left
    · intro V hV
      have k0 := (hV.cell (p := ⟨w.heap.size + 1, 0, none⟩) hly).trans cy0
      have k1 := (hV.cell (p := ⟨w.heap.size + 1, 1, none⟩) hly).trans cy1
      have k2 := (hV.cell (p := ⟨w.heap.size + 1, 2, none⟩) hly).trans cy2
      have k3 := (hV.cell (p := ⟨w.heap.size + 1, 3, none⟩) hly).trans cy3
      go_simp
      (try with_reducible rfl)
    simp only [Act.put]
    refine wpAnyH_take (i := 3) (v := ?_) rfl (by kernel_rfl) (by kernel_rfl) (by kernel_rfl) (fun _ _ _ h => h) (Or.inl ⟨by kernel_rfl, ?_⟩) hS ?_
    rotate_left
    · intro V hV
      have k0 := (hV.cell (p := ⟨w.heap.size, 0, none⟩) hlx).trans cx0
      have k1 := (hV.cell (p := ⟨w.heap.size, 1, none⟩) hlx).trans cx1
      have k2 := (hV.cell (p := ⟨w.heap.size, 2, none⟩) hlx).trans cx2
      have k3 := (hV.cell (p := ⟨w.heap.size, 3, none⟩) hlx).trans cx3
      go_simp
      (try with_reducible rfl)
    simp only [Act.put]
    refine wpAnyH_take (i := 4) (v := ?_) rfl (by kernel_rfl) (by kernel_rfl) (by kernel_rfl) (fun _ _ _ h => h) (Or.inl ⟨by kernel_rfl, ?_⟩) hS ?_
    rotate_left
    · intro V hV
      have k0 := (hV.cell (p := ⟨w.heap.size + 1, 0, none⟩) hly).trans cy0
      have k1 := (hV.cell (p := ⟨w.heap.size + 1, 1, none⟩) hly).trans cy1
      have k2 := (hV.cell (p := ⟨w.heap.size + 1, 2, none⟩) hly).trans cy2
      have k3 := (hV.cell (p := ⟨w.heap.size + 1, 3, none⟩) hly).trans cy3
      go_simp
      (try with_reducible rfl)
    simp only [Act.put]
    refine wpAnyH_ready (rs := [2, 6, 7]) (by kernel_rfl) (by simp) ?_
    refine AllReadyH.cons rfl (fun K hK => ?_) (AllReadyH.cons rfl (fun K hK => ?_) (AllReadyH.cons rfl (fun K hK => ?_) AllReadyH.nil))
    · go_simp
      refine (Cc1.out _).mono ?_
      rintro e U1 ⟨rfl, hbc⟩
      refine hK.out _ _ (hS.trans (hbc.mono hS.size)) (fun hS => ?_)
      clear hK K hbc
      refine wpAnyH_ready (rs := [5, 6, 7]) (by kernel_rfl) (by simp) ?_
      refine AllReadyH.cons rfl (fun K hK => ?_) (AllReadyH.cons rfl (fun K hK => ?_) (AllReadyH.cons rfl (fun K hK => ?_) AllReadyH.nil))
      · go_simp
        refine (Cc2.out _).mono ?_
        rintro e U2 ⟨rfl, hbc⟩
        refine hK.out _ _ (hS.trans (hbc.mono hS.size)) (fun hS => ?_)
        clear hK K hbc
        refine wpAnyH_ready (rs := [6, 7]) (by kernel_rfl) (by simp) ?_
        refine AllReadyH.cons rfl (fun K hK => ?_) (AllReadyH.cons rfl (fun K hK => ?_) AllReadyH.nil)
        · go_simp
          obtain ⟨B6, hBe⟩ : ∃ B6, B6 = U2.heap.size := ⟨_, rfl⟩
          have hZ6 : (U2.alloc (.cells #[.int .u64 0, .int .u64 0, .int .u64 0, .int .u64 0] 24)).heap[B6]? = some (.cells #[.int .u64 0, .int .u64 0, .int .u64 0, .int .u64 0] 24 (0, 0)) := by rw [hBe]; exact heap_new _ _
          have hL6 : W0.heap.size ≤ B6 := by rw [hBe]; exact hS.size
          have hSA : Below W0.heap.size W0 (U2.alloc (.cells #[.int .u64 0, .int .u64 0, .int .u64 0, .int .u64 0] 24)) := hS.alloc hS.size _
          rw [← hBe]
          have hLT6 : B6 < (U2.alloc (.cells #[.int .u64 0, .int .u64 0, .int .u64 0, .int .u64 0] 24)).heap.size := (Array.getElem?_eq_some_iff.1 hZ6).1
          generalize (U2.alloc (.cells #[.int .u64 0, .int .u64 0, .int .u64 0, .int .u64 0] 24)) = U3 at hZ6  hSA hLT6  ⊢
          refine hK.out _ _ hSA (fun hS => ?_)
          clear hK K hSA hBe
          refine wpAnyH_ready (rs := [7]) (by kernel_rfl) (by simp) ?_
          refine AllReadyH.cons rfl (fun K hK => ?_) AllReadyH.nil
          · go_simp
            obtain ⟨B7, hBe⟩ : ∃ B7, B7 = U3.heap.size := ⟨_, rfl⟩
            have hZ7 : (U3.alloc (.cells #[.int .u64 0, .int .u64 0, .int .u64 0, .int .u64 0] 24)).heap[B7]? = some (.cells #[.int .u64 0, .int .u64 0, .int .u64 0, .int .u64 0] 24 (0, 0)) := by rw [hBe]; exact heap_new _ _
            have hL7 : W0.heap.size ≤ B7 := by rw [hBe]; exact hS.size
            have hSA : Below W0.heap.size W0 (U3.alloc (.cells #[.int .u64 0, .int .u64 0, .int .u64 0, .int .u64 0] 24)) := hS.alloc hS.size _
            have hY6 : (U3.alloc (.cells #[.int .u64 0, .int .u64 0, .int .u64 0, .int .u64 0] 24)).heap[B6]? = _ := (heap_old _ _ (Array.getElem?_eq_some_iff.1 hZ6).1).trans hZ6
            clear hZ6
            have hZ6 := hY6
            clear hY6
            have hN76 : B6 ≠ B7 := by rw [hBe]; exact Nat.ne_of_lt (hLT6)
            rw [← hBe]
            have hLT7 : B7 < (U3.alloc (.cells #[.int .u64 0, .int .u64 0, .int .u64 0, .int .u64 0] 24)).heap.size := (Array.getElem?_eq_some_iff.1 hZ7).1
            have hQ6 : B6 < (U3.alloc (.cells #[.int .u64 0, .int .u64 0, .int .u64 0, .int .u64 0] 24)).heap.size := (Array.getElem?_eq_some_iff.1 hZ6).1
            clear hLT6
            have hLT6 := hQ6
            clear hQ6
            generalize (U3.alloc (.cells #[.int .u64 0, .int .u64 0, .int .u64 0, .int .u64 0] 24)) = U4 at hZ7 hZ6 hSA hLT7 hLT6 ⊢
            refine hK.out _ _ hSA (fun hS => ?_)
            clear hK K hSA hBe
            obtain ⟨a0, a1, a2, a3⟩ := cells4 hZ6
            have fa : ∀ o, U4.frozen? ⟨B6, o, none⟩ = false := fun o => blk_free hZ6
            refine wpAnyH_ready (rs := [8]) (by kernel_rfl) (by simp) (AllReadyH.cons rfl (fun K hK => ?_) AllReadyH.nil)
            go_simp
            have g6 := stored4 (z0 := .int .u64 j0) (z1 := .int .u64 j1) (z2 := .int .u64 j2) (z3 := .int .u64 j3) hZ6
            have hSB := below_stored4 (b := B6) (z0 := .int .u64 j0) (z1 := .int .u64 j1) (z2 := .int .u64 j2) (z3 := .int .u64 j3) hS hL6
            have o7 := (other4 (b := B6) (c := B7) (z0 := .int .u64 j0) (z1 := .int .u64 j1) (z2 := .int .u64 j2) (z3 := .int .u64 j3) (by first | exact hN76 | exact (hN76).symm | exact hN67 | exact (hN67).symm)).trans hZ7
            clear hZ7
            have hZ7 := o7
            clear o7
            generalize ((((U4.setCell ⟨B6, 0, none⟩ (.int .u64 j0)).setCell ⟨B6, 1, none⟩ (.int .u64 j1)).setCell ⟨B6, 2, none⟩ (.int .u64 j2)).setCell ⟨B6, 3, none⟩ (.int .u64 j3)) = U4x at g6 hSB hZ7 ⊢
            refine hK.out _ _ hSB (fun hS => ?_)
            clear hK K hSB a0 a1 a2 a3 fa hZ6
            obtain ⟨a0, a1, a2, a3⟩ := cells4 hZ7
            have fa : ∀ o, U4x.frozen? ⟨B7, o, none⟩ = false := fun o => blk_free hZ7
            refine wpAnyH_ready (rs := [9]) (by kernel_rfl) (by simp) (AllReadyH.cons rfl (fun K hK => ?_) AllReadyH.nil)
            go_simp
            have g7 := stored4 (z0 := .int .u64 b0) (z1 := .int .u64 b1) (z2 := .int .u64 b2) (z3 := .int .u64 b3) hZ7
            have hSB := below_stored4 (b := B7) (z0 := .int .u64 b0) (z1 := .int .u64 b1) (z2 := .int .u64 b2) (z3 := .int .u64 b3) hS hL7
            have o6 := (other4 (b := B7) (c := B6) (z0 := .int .u64 b0) (z1 := .int .u64 b1) (z2 := .int .u64 b2) (z3 := .int .u64 b3) (by first | exact hN67 | exact (hN67).symm | exact hN76 | exact (hN76).symm)).trans g6
            clear g6
            have g6 := o6
            clear o6
            generalize ((((U4x.setCell ⟨B7, 0, none⟩ (.int .u64 b0)).setCell ⟨B7, 1, none⟩ (.int .u64 b1)).setCell ⟨B7, 2, none⟩ (.int .u64 b2)).setCell ⟨B7, 3, none⟩ (.int .u64 b3)) = U4xx at g7 hSB g6 ⊢
            refine hK.out _ _ hSB (fun hS => wpAnyH_done (by kernel_rfl) ?_ _)
            clear hK K
            go_wp2_with fail
            go_meet
            exact ⟨B6, B7, rfl, rfl, g6, g7, hSB⟩
        · go_simp
          obtain ⟨B7, hBe⟩ : ∃ B7, B7 = U2.heap.size := ⟨_, rfl⟩
          have hZ7 : (U2.alloc (.cells #[.int .u64 0, .int .u64 0, .int .u64 0, .int .u64 0] 24)).heap[B7]? = some (.cells #[.int .u64 0, .int .u64 0, .int .u64 0, .int .u64 0] 24 (0, 0)) := by rw [hBe]; exact heap_new _ _
          have hL7 : W0.heap.size ≤ B7 := by rw [hBe]; exact hS.size
          have hSA : Below W0.heap.size W0 (U2.alloc (.cells #[.int .u64 0, .int .u64 0, .int .u64 0, .int .u64 0] 24)) := hS.alloc hS.size _
          rw [← hBe]
          have hLT7 : B7 < (U2.alloc (.cells #[.int .u64 0, .int .u64 0, .int .u64 0, .int .u64 0] 24)).heap.size := (Array.getElem?_eq_some_iff.1 hZ7).1
          generalize (U2.alloc (.cells #[.int .u64 0, .int .u64 0, .int .u64 0, .int .u64 0] 24)) = U5 at hZ7  hSA hLT7  ⊢
          refine hK.out _ _ hSA (fun hS => ?_)
          clear hK K hSA hBe
          refine wpAnyH_ready (rs := [6]) (by kernel_rfl) (by simp) ?_
          refine AllReadyH.cons rfl (fun K hK => ?_) AllReadyH.nil
          · go_simp
            obtain ⟨B6, hBe⟩ : ∃ B6, B6 = U5.heap.size := ⟨_, rfl⟩
            have hZ6 : (U5.alloc (.cells #[.int .u64 0, .int .u64 0, .int .u64 0, .int .u64 0] 24)).heap[B6]? = some (.cells #[.int .u64 0, .int .u64 0, .int .u64 0, .int .u64 0] 24 (0, 0)) := by rw [hBe]; exact heap_new _ _
            have hL6 : W0.heap.size ≤ B6 := by rw [hBe]; exact hS.size
            have hSA : Below W0.heap.size W0 (U5.alloc (.cells #[.int .u64 0, .int .u64 0, .int .u64 0, .int .u64 0] 24)) := hS.alloc hS.size _
            have hY7 : (U5.alloc (.cells #[.int .u64 0, .int .u64 0, .int .u64 0, .int .u64 0] 24)).heap[B7]? = _ := (heap_old _ _ (Array.getElem?_eq_some_iff.1 hZ7).1).trans hZ7
            clear hZ7
            have hZ7 := hY7
            clear hY7
            have hN67 : B7 ≠ B6 := by rw [hBe]; exact Nat.ne_of_lt (hLT7)
            rw [← hBe]
            have hLT6 : B6 < (U5.alloc (.cells #[.int .u64 0, .int .u64 0, .int .u64 0, .int .u64 0] 24)).heap.size := (Array.getElem?_eq_some_iff.1 hZ6).1
            have hQ7 : B7 < (U5.alloc (.cells #[.int .u64 0, .int .u64 0, .int .u64 0, .int .u64 0] 24)).heap.size := (Array.getElem?_eq_some_iff.1 hZ7).1
            clear hLT7
            have hLT7 := hQ7
            clear hQ7
            generalize (U5.alloc (.cells #[.int .u64 0, .int .u64 0, .int .u64 0, .int .u64 0] 24)) = U6 at hZ6 hZ7 hSA hLT6 hLT7 ⊢
            refine hK.out _ _ hSA (fun hS => ?_)
            clear hK K hSA hBe
            obtain ⟨a0, a1, a2, a3⟩ := cells4 hZ6
            have fa : ∀ o, U6.frozen? ⟨B6, o, none⟩ = false := fun o => blk_free hZ6
            refine wpAnyH_ready (rs := [8]) (by kernel_rfl) (by simp) (AllReadyH.cons rfl (fun K hK => ?_) AllReadyH.nil)
            go_simp
            have g6 := stored4 (z0 := .int .u64 j0) (z1 := .int .u64 j1) (z2 := .int .u64 j2) (z3 := .int .u64 j3) hZ6
            have hSB := below_stored4 (b := B6) (z0 := .int .u64 j0) (z1 := .int .u64 j1) (z2 := .int .u64 j2) (z3 := .int .u64 j3) hS hL6
            have o7 := (other4 (b := B6) (c := B7) (z0 := .int .u64 j0) (z1 := .int .u64 j1) (z2 := .int .u64 j2) (z3 := .int .u64 j3) (by first | exact hN76 | exact (hN76).symm | exact hN67 | exact (hN67).symm)).trans hZ7
            clear hZ7
            have hZ7 := o7
            clear o7
            generalize ((((U6.setCell ⟨B6, 0, none⟩ (.int .u64 j0)).setCell ⟨B6, 1, none⟩ (.int .u64 j1)).setCell ⟨B6, 2, none⟩ (.int .u64 j2)).setCell ⟨B6, 3, none⟩ (.int .u64 j3)) = U6x at g6 hSB hZ7 ⊢
            refine hK.out _ _ hSB (fun hS => ?_)
            clear hK K hSB a0 a1 a2 a3 fa hZ6
            obtain ⟨a0, a1, a2, a3⟩ := cells4 hZ7
            have fa : ∀ o, U6x.frozen? ⟨B7, o, none⟩ = false := fun o => blk_free hZ7
            refine wpAnyH_ready (rs := [9]) (by kernel_rfl) (by simp) (AllReadyH.cons rfl (fun K hK => ?_) AllReadyH.nil)
            go_simp
            have g7 := stored4 (z0 := .int .u64 b0) (z1 := .int .u64 b1) (z2 := .int .u64 b2) (z3 := .int .u64 b3) hZ7
            have hSB := below_stored4 (b := B7) (z0 := .int .u64 b0) (z1 := .int .u64 b1) (z2 := .int .u64 b2) (z3 := .int .u64 b3) hS hL7
            have o6 := (other4 (b := B7) (c := B6) (z0 := .int .u64 b0) (z1 := .int .u64 b1) (z2 := .int .u64 b2) (z3 := .int .u64 b3) (by first | exact hN67 | exact (hN67).symm | exact hN76 | exact (hN76).symm)).trans g6
            clear g6
            have g6 := o6
            clear o6
            generalize ((((U6x.setCell ⟨B7, 0, none⟩ (.int .u64 b0)).setCell ⟨B7, 1, none⟩ (.int .u64 b1)).setCell ⟨B7, 2, none⟩ (.int .u64 b2)).setCell ⟨B7, 3, none⟩ (.int .u64 b3)) = U6xx at g7 hSB g6 ⊢
            refine hK.out _ _ hSB (fun hS => wpAnyH_done (by kernel_rfl) ?_ _)
            clear hK K
            go_wp2_with fail
            go_meet
            exact ⟨B6, B7, rfl, rfl, g6, g7, hSB⟩
      · go_simp
        obtain ⟨B6, hBe⟩ : ∃ B6, B6 = U1.heap.size := ⟨_, rfl⟩
        have hZ6 : (U1.alloc (.cells #[.int .u64 0, .int .u64 0, .int .u64 0, .int .u64 0] 24)).heap[B6]? = some (.cells #[.int .u64 0, .int .u64 0, .int .u64 0, .int .u64 0] 24 (0, 0)) := by rw [hBe]; exact heap_new _ _
        have hL6 : W0.heap.size ≤ B6 := by rw [hBe]; exact hS.size
        have hSA : Below W0.heap.size W0 (U1.alloc (.cells #[.int .u64 0, .int .u64 0, .int .u64 0, .int .u64 0] 24)) := hS.alloc hS.size _
        rw [← hBe]
        have hLT6 : B6 < (U1.alloc (.cells #[.int .u64 0, .int .u64 0, .int .u64 0, .int .u64 0] 24)).heap.size := (Array.getElem?_eq_some_iff.1 hZ6).1
        generalize (U1.alloc (.cells #[.int .u64 0, .int .u64 0, .int .u64 0, .int .u64 0] 24)) = U7 at hZ6  hSA hLT6  ⊢
        refine hK.out _ _ hSA (fun hS => ?_)
        clear hK K hSA hBe
        refine wpAnyH_ready (rs := [5, 7]) (by kernel_rfl) (by simp) ?_
        refine AllReadyH.cons rfl (fun K hK => ?_) (AllReadyH.cons rfl (fun K hK => ?_) AllReadyH.nil)
        · go_simp
          refine (Cc2.out _).mono ?_
          rintro e U8 ⟨rfl, hbc⟩
          refine hK.out _ _ (hS.trans (hbc.mono hS.size)) (fun hS => ?_)
          replace hZ6 := (hbc.block B6 (Array.getElem?_eq_some_iff.1 hZ6).1).trans hZ6
          replace hLT6 := (Array.getElem?_eq_some_iff.1 hZ6).1
          clear hK K hbc
          refine wpAnyH_ready (rs := [7]) (by kernel_rfl) (by simp) ?_
          refine AllReadyH.cons rfl (fun K hK => ?_) AllReadyH.nil
          · go_simp
            obtain ⟨B7, hBe⟩ : ∃ B7, B7 = U8.heap.size := ⟨_, rfl⟩
            have hZ7 : (U8.alloc (.cells #[.int .u64 0, .int .u64 0, .int .u64 0, .int .u64 0] 24)).heap[B7]? = some (.cells #[.int .u64 0, .int .u64 0, .int .u64 0, .int .u64 0] 24 (0, 0)) := by rw [hBe]; exact heap_new _ _
            have hL7 : W0.heap.size ≤ B7 := by rw [hBe]; exact hS.size
            have hSA : Below W0.heap.size W0 (U8.alloc (.cells #[.int .u64 0, .int .u64 0, .int .u64 0, .int .u64 0] 24)) := hS.alloc hS.size _
            have hY6 : (U8.alloc (.cells #[.int .u64 0, .int .u64 0, .int .u64 0, .int .u64 0] 24)).heap[B6]? = _ := (heap_old _ _ (Array.getElem?_eq_some_iff.1 hZ6).1).trans hZ6
            clear hZ6
            have hZ6 := hY6
            clear hY6
            have hN76 : B6 ≠ B7 := by rw [hBe]; exact Nat.ne_of_lt (hLT6)
            rw [← hBe]
            have hLT7 : B7 < (U8.alloc (.cells #[.int .u64 0, .int .u64 0, .int .u64 0, .int .u64 0] 24)).heap.size := (Array.getElem?_eq_some_iff.1 hZ7).1
            have hQ6 : B6 < (U8.alloc (.cells #[.int .u64 0, .int .u64 0, .int .u64 0, .int .u64 0] 24)).heap.size := (Array.getElem?_eq_some_iff.1 hZ6).1
            clear hLT6
            have hLT6 := hQ6
            clear hQ6
            generalize (U8.alloc (.cells #[.int .u64 0, .int .u64 0, .int .u64 0, .int .u64 0] 24)) = U9 at hZ7 hZ6 hSA hLT7 hLT6 ⊢
            refine hK.out _ _ hSA (fun hS => ?_)
            clear hK K hSA hBe
            obtain ⟨a0, a1, a2, a3⟩ := cells4 hZ6
            have fa : ∀ o, U9.frozen? ⟨B6, o, none⟩ = false := fun o => blk_free hZ6
            refine wpAnyH_ready (rs := [8]) (by kernel_rfl) (by simp) (AllReadyH.cons rfl (fun K hK => ?_) AllReadyH.nil)
            go_simp
            have g6 := stored4 (z0 := .int .u64 j0) (z1 := .int .u64 j1) (z2 := .int .u64 j2) (z3 := .int .u64 j3) hZ6
            have hSB := below_stored4 (b := B6) (z0 := .int .u64 j0) (z1 := .int .u64 j1) (z2 := .int .u64 j2) (z3 := .int .u64 j3) hS hL6
            have o7 := (other4 (b := B6) (c := B7) (z0 := .int .u64 j0) (z1 := .int .u64 j1) (z2 := .int .u64 j2) (z3 := .int .u64 j3) (by first | exact hN76 | exact (hN76).symm | exact hN67 | exact (hN67).symm)).trans hZ7
            clear hZ7
            have hZ7 := o7
            clear o7
            generalize ((((U9.setCell ⟨B6, 0, none⟩ (.int .u64 j0)).setCell ⟨B6, 1, none⟩ (.int .u64 j1)).setCell ⟨B6, 2, none⟩ (.int .u64 j2)).setCell ⟨B6, 3, none⟩ (.int .u64 j3)) = U9x at g6 hSB hZ7 ⊢
            refine hK.out _ _ hSB (fun hS => ?_)
            clear hK K hSB a0 a1 a2 a3 fa hZ6
            obtain ⟨a0, a1, a2, a3⟩ := cells4 hZ7
            have fa : ∀ o, U9x.frozen? ⟨B7, o, none⟩ = false := fun o => blk_free hZ7
            refine wpAnyH_ready (rs := [9]) (by kernel_rfl) (by simp) (AllReadyH.cons rfl (fun K hK => ?_) AllReadyH.nil)
            go_simp
            have g7 := stored4 (z0 := .int .u64 b0) (z1 := .int .u64 b1) (z2 := .int .u64 b2) (z3 := .int .u64 b3) hZ7
            have hSB := below_stored4 (b := B7) (z0 := .int .u64 b0) (z1 := .int .u64 b1) (z2 := .int .u64 b2) (z3 := .int .u64 b3) hS hL7
            have o6 := (other4 (b := B7) (c := B6) (z0 := .int .u64 b0) (z1 := .int .u64 b1) (z2 := .int .u64 b2) (z3 := .int .u64 b3) (by first | exact hN67 | exact (hN67).symm | exact hN76 | exact (hN76).symm)).trans g6
            clear g6
            have g6 := o6
            clear o6
            generalize ((((U9x.setCell ⟨B7, 0, none⟩ (.int .u64 b0)).setCell ⟨B7, 1, none⟩ (.int .u64 b1)).setCell ⟨B7, 2, none⟩ (.int .u64 b2)).setCell ⟨B7, 3, none⟩ (.int .u64 b3)) = U9xx at g7 hSB g6 ⊢
            refine hK.out _ _ hSB (fun hS => wpAnyH_done (by kernel_rfl) ?_ _)
            clear hK K
            go_wp2_with fail
            go_meet
            exact ⟨B6, B7, rfl, rfl, g6, g7, hSB⟩
        · go_simp
          obtain ⟨B7, hBe⟩ : ∃ B7, B7 = U7.heap.size := ⟨_, rfl⟩
          have hZ7 : (U7.alloc (.cells #[.int .u64 0, .int .u64 0, .int .u64 0, .int .u64 0] 24)).heap[B7]? = some (.cells #[.int .u64 0, .int .u64 0, .int .u64 0, .int .u64 0] 24 (0, 0)) := by rw [hBe]; exact heap_new _ _
          have hL7 : W0.heap.size ≤ B7 := by rw [hBe]; exact hS.size
          have hSA : Below W0.heap.size W0 (U7.alloc (.cells #[.int .u64 0, .int .u64 0, .int .u64 0, .int .u64 0] 24)) := hS.alloc hS.size _
          have hY6 : (U7.alloc (.cells #[.int .u64 0, .int .u64 0, .int .u64 0, .int .u64 0] 24)).heap[B6]? = _ := (heap_old _ _ (Array.getElem?_eq_some_iff.1 hZ6).1).trans hZ6
          clear hZ6
          have hZ6 := hY6
          clear hY6
          have hN76 : B6 ≠ B7 := by rw [hBe]; exact Nat.ne_of_lt (hLT6)
          rw [← hBe]
          have hLT7 : B7 < (U7.alloc (.cells #[.int .u64 0, .int .u64 0, .int .u64 0, .int .u64 0] 24)).heap.size := (Array.getElem?_eq_some_iff.1 hZ7).1
          have hQ6 : B6 < (U7.alloc (.cells #[.int .u64 0, .int .u64 0, .int .u64 0, .int .u64 0] 24)).heap.size := (Array.getElem?_eq_some_iff.1 hZ6).1
          clear hLT6
          have hLT6 := hQ6
          clear hQ6
          generalize (U7.alloc (.cells #[.int .u64 0, .int .u64 0, .int .u64 0, .int .u64 0] 24)) = U10 at hZ7 hZ6 hSA hLT7 hLT6 ⊢
          refine hK.out _ _ hSA (fun hS => ?_)
          clear hK K hSA hBe
          refine wpAnyH_ready (rs := [5]) (by kernel_rfl) (by simp) ?_
          refine AllReadyH.cons rfl (fun K hK => ?_) AllReadyH.nil
          · go_simp
            refine (Cc2.out _).mono ?_
            rintro e U11 ⟨rfl, hbc⟩
            refine hK.out _ _ (hS.trans (hbc.mono hS.size)) (fun hS => ?_)
            replace hZ6 := (hbc.block B6 (Array.getElem?_eq_some_iff.1 hZ6).1).trans hZ6
            replace hLT6 := (Array.getElem?_eq_some_iff.1 hZ6).1
            replace hZ7 := (hbc.block B7 (Array.getElem?_eq_some_iff.1 hZ7).1).trans hZ7
            replace hLT7 := (Array.getElem?_eq_some_iff.1 hZ7).1
            clear hK K hbc
            obtain ⟨a0, a1, a2, a3⟩ := cells4 hZ6
            have fa : ∀ o, U11.frozen? ⟨B6, o, none⟩ = false := fun o => blk_free hZ6
            refine wpAnyH_ready (rs := [8]) (by kernel_rfl) (by simp) (AllReadyH.cons rfl (fun K hK => ?_) AllReadyH.nil)
            go_simp
            have g6 := stored4 (z0 := .int .u64 j0) (z1 := .int .u64 j1) (z2 := .int .u64 j2) (z3 := .int .u64 j3) hZ6
            have hSB := below_stored4 (b := B6) (z0 := .int .u64 j0) (z1 := .int .u64 j1) (z2 := .int .u64 j2) (z3 := .int .u64 j3) hS hL6
            have o7 := (other4 (b := B6) (c := B7) (z0 := .int .u64 j0) (z1 := .int .u64 j1) (z2 := .int .u64 j2) (z3 := .int .u64 j3) (by first | exact hN76 | exact (hN76).symm | exact hN67 | exact (hN67).symm)).trans hZ7
            clear hZ7
            have hZ7 := o7
            clear o7
            generalize ((((U11.setCell ⟨B6, 0, none⟩ (.int .u64 j0)).setCell ⟨B6, 1, none⟩ (.int .u64 j1)).setCell ⟨B6, 2, none⟩ (.int .u64 j2)).setCell ⟨B6, 3, none⟩ (.int .u64 j3)) = U11x at g6 hSB hZ7 ⊢
            refine hK.out _ _ hSB (fun hS => ?_)
            clear hK K hSB a0 a1 a2 a3 fa hZ6
            obtain ⟨a0, a1, a2, a3⟩ := cells4 hZ7
            have fa : ∀ o, U11x.frozen? ⟨B7, o, none⟩ = false := fun o => blk_free hZ7
            refine wpAnyH_ready (rs := [9]) (by kernel_rfl) (by simp) (AllReadyH.cons rfl (fun K hK => ?_) AllReadyH.nil)
            go_simp
            have g7 := stored4 (z0 := .int .u64 b0) (z1 := .int .u64 b1) (z2 := .int .u64 b2) (z3 := .int .u64 b3) hZ7
            have hSB := below_stored4 (b := B7) (z0 := .int .u64 b0) (z1 := .int .u64 b1) (z2 := .int .u64 b2) (z3 := .int .u64 b3) hS hL7
            have o6 := (other4 (b := B7) (c := B6) (z0 := .int .u64 b0) (z1 := .int .u64 b1) (z2 := .int .u64 b2) (z3 := .int .u64 b3) (by first | exact hN67 | exact (hN67).symm | exact hN76 | exact (hN76).symm)).trans g6
            clear g6
            have g6 := o6
            clear o6
            generalize ((((U11x.setCell ⟨B7, 0, none⟩ (.int .u64 b0)).setCell ⟨B7, 1, none⟩ (.int .u64 b1)).setCell ⟨B7, 2, none⟩ (.int .u64 b2)).setCell ⟨B7, 3, none⟩ (.int .u64 b3)) = U11xx at g7 hSB g6 ⊢
            refine hK.out _ _ hSB (fun hS => wpAnyH_done (by kernel_rfl) ?_ _)
            clear hK K
            go_wp2_with fail
            go_meet
            exact ⟨B6, B7, rfl, rfl, g6, g7, hSB⟩
      · go_simp
        obtain ⟨B7, hBe⟩ : ∃ B7, B7 = U1.heap.size := ⟨_, rfl⟩
        have hZ7 : (U1.alloc (.cells #[.int .u64 0, .int .u64 0, .int .u64 0, .int .u64 0] 24)).heap[B7]? = some (.cells #[.int .u64 0, .int .u64 0, .int .u64 0, .int .u64 0] 24 (0, 0)) := by rw [hBe]; exact heap_new _ _
        have hL7 : W0.heap.size ≤ B7 := by rw [hBe]; exact hS.size
        have hSA : Below W0.heap.size W0 (U1.alloc (.cells #[.int .u64 0, .int .u64 0, .int .u64 0, .int .u64 0] 24)) := hS.alloc hS.size _
        rw [← hBe]
        have hLT7 : B7 < (U1.alloc (.cells #[.int .u64 0, .int .u64 0, .int .u64 0, .int .u64 0] 24)).heap.size := (Array.getElem?_eq_some_iff.1 hZ7).1
        generalize (U1.alloc (.cells #[.int .u64 0, .int .u64 0, .int .u64 0, .int .u64 0] 24)) = U12 at hZ7  hSA hLT7  ⊢
        refine hK.out _ _ hSA (fun hS => ?_)
        clear hK K hSA hBe
        refine wpAnyH_ready (rs := [5, 6]) (by kernel_rfl) (by simp) ?_
        refine AllReadyH.cons rfl (fun K hK => ?_) (AllReadyH.cons rfl (fun K hK => ?_) AllReadyH.nil)
        · go_simp
          refine (Cc2.out _).mono ?_
          rintro e U13 ⟨rfl, hbc⟩
          refine hK.out _ _ (hS.trans (hbc.mono hS.size)) (fun hS => ?_)
          replace hZ7 := (hbc.block B7 (Array.getElem?_eq_some_iff.1 hZ7).1).trans hZ7
          replace hLT7 := (Array.getElem?_eq_some_iff.1 hZ7).1
          clear hK K hbc
          refine wpAnyH_ready (rs := [6]) (by kernel_rfl) (by simp) ?_
          refine AllReadyH.cons rfl (fun K hK => ?_) AllReadyH.nil
          · go_simp
            obtain ⟨B6, hBe⟩ : ∃ B6, B6 = U13.heap.size := ⟨_, rfl⟩
            have hZ6 : (U13.alloc (.cells #[.int .u64 0, .int .u64 0, .int .u64 0, .int .u64 0] 24)).heap[B6]? = some (.cells #[.int .u64 0, .int .u64 0, .int .u64 0, .int .u64 0] 24 (0, 0)) := by rw [hBe]; exact heap_new _ _
            have hL6 : W0.heap.size ≤ B6 := by rw [hBe]; exact hS.size
            have hSA : Below W0.heap.size W0 (U13.alloc (.cells #[.int .u64 0, .int .u64 0, .int .u64 0, .int .u64 0] 24)) := hS.alloc hS.size _
            have hY7 : (U13.alloc (.cells #[.int .u64 0, .int .u64 0, .int .u64 0, .int .u64 0] 24)).heap[B7]? = _ := (heap_old _ _ (Array.getElem?_eq_some_iff.1 hZ7).1).trans hZ7
            clear hZ7
            have hZ7 := hY7
            clear hY7
            have hN67 : B7 ≠ B6 := by rw [hBe]; exact Nat.ne_of_lt (hLT7)
            rw [← hBe]
            have hLT6 : B6 < (U13.alloc (.cells #[.int .u64 0, .int .u64 0, .int .u64 0, .int .u64 0] 24)).heap.size := (Array.getElem?_eq_some_iff.1 hZ6).1
            have hQ7 : B7 < (U13.alloc (.cells #[.int .u64 0, .int .u64 0, .int .u64 0, .int .u64 0] 24)).heap.size := (Array.getElem?_eq_some_iff.1 hZ7).1
            clear hLT7
            have hLT7 := hQ7
            clear hQ7
            generalize (U13.alloc (.cells #[.int .u64 0, .int .u64 0, .int .u64 0, .int .u64 0] 24)) = U14 at hZ6 hZ7 hSA hLT6 hLT7 ⊢
            refine hK.out _ _ hSA (fun hS => ?_)
            clear hK K hSA hBe
            obtain ⟨a0, a1, a2, a3⟩ := cells4 hZ6
            have fa : ∀ o, U14.frozen? ⟨B6, o, none⟩ = false := fun o => blk_free hZ6
            refine wpAnyH_ready (rs := [8]) (by kernel_rfl) (by simp) (AllReadyH.cons rfl (fun K hK => ?_) AllReadyH.nil)
            go_simp
            have g6 := stored4 (z0 := .int .u64 j0) (z1 := .int .u64 j1) (z2 := .int .u64 j2) (z3 := .int .u64 j3) hZ6
            have hSB := below_stored4 (b := B6) (z0 := .int .u64 j0) (z1 := .int .u64 j1) (z2 := .int .u64 j2) (z3 := .int .u64 j3) hS hL6
            have o7 := (other4 (b := B6) (c := B7) (z0 := .int .u64 j0) (z1 := .int .u64 j1) (z2 := .int .u64 j2) (z3 := .int .u64 j3) (by first | exact hN76 | exact (hN76).symm | exact hN67 | exact (hN67).symm)).trans hZ7
            clear hZ7
            have hZ7 := o7
            clear o7
            generalize ((((U14.setCell ⟨B6, 0, none⟩ (.int .u64 j0)).setCell ⟨B6, 1, none⟩ (.int .u64 j1)).setCell ⟨B6, 2, none⟩ (.int .u64 j2)).setCell ⟨B6, 3, none⟩ (.int .u64 j3)) = U14x at g6 hSB hZ7 ⊢
            refine hK.out _ _ hSB (fun hS => ?_)
            clear hK K hSB a0 a1 a2 a3 fa hZ6
            obtain ⟨a0, a1, a2, a3⟩ := cells4 hZ7
            have fa : ∀ o, U14x.frozen? ⟨B7, o, none⟩ = false := fun o => blk_free hZ7
            refine wpAnyH_ready (rs := [9]) (by kernel_rfl) (by simp) (AllReadyH.cons rfl (fun K hK => ?_) AllReadyH.nil)
            go_simp
            have g7 := stored4 (z0 := .int .u64 b0) (z1 := .int .u64 b1) (z2 := .int .u64 b2) (z3 := .int .u64 b3) hZ7
            have hSB := below_stored4 (b := B7) (z0 := .int .u64 b0) (z1 := .int .u64 b1) (z2 := .int .u64 b2) (z3 := .int .u64 b3) hS hL7
            have o6 := (other4 (b := B7) (c := B6) (z0 := .int .u64 b0) (z1 := .int .u64 b1) (z2 := .int .u64 b2) (z3 := .int .u64 b3) (by first | exact hN67 | exact (hN67).symm | exact hN76 | exact (hN76).symm)).trans g6
            clear g6
            have g6 := o6
            clear o6
            generalize ((((U14x.setCell ⟨B7, 0, none⟩ (.int .u64 b0)).setCell ⟨B7, 1, none⟩ (.int .u64 b1)).setCell ⟨B7, 2, none⟩ (.int .u64 b2)).setCell ⟨B7, 3, none⟩ (.int .u64 b3)) = U14xx at g7 hSB g6 ⊢
            refine hK.out _ _ hSB (fun hS => wpAnyH_done (by kernel_rfl) ?_ _)
            clear hK K
            go_wp2_with fail
            go_meet
            exact ⟨B6, B7, rfl, rfl, g6, g7, hSB⟩
        · go_simp
          obtain ⟨B6, hBe⟩ : ∃ B6, B6 = U12.heap.size := ⟨_, rfl⟩
          have hZ6 : (U12.alloc (.cells #[.int .u64 0, .int .u64 0, .int .u64 0, .int .u64 0] 24)).heap[B6]? = some (.cells #[.int .u64 0, .int .u64 0, .int .u64 0, .int .u64 0] 24 (0, 0)) := by rw [hBe]; exact heap_new _ _
          have hL6 : W0.heap.size ≤ B6 := by rw [hBe]; exact hS.size
          have hSA : Below W0.heap.size W0 (U12.alloc (.cells #[.int .u64 0, .int .u64 0, .int .u64 0, .int .u64 0] 24)) := hS.alloc hS.size _
          have hY7 : (U12.alloc (.cells #[.int .u64 0, .int .u64 0, .int .u64 0, .int .u64 0] 24)).heap[B7]? = _ := (heap_old _ _ (Array.getElem?_eq_some_iff.1 hZ7).1).trans hZ7
          clear hZ7
          have hZ7 := hY7
          clear hY7
          have hN67 : B7 ≠ B6 := by rw [hBe]; exact Nat.ne_of_lt (hLT7)
          rw [← hBe]
          have hLT6 : B6 < (U12.alloc (.cells #[.int .u64 0, .int .u64 0, .int .u64 0, .int .u64 0] 24)).heap.size := (Array.getElem?_eq_some_iff.1 hZ6).1
          have hQ7 : B7 < (U12.alloc (.cells #[.int .u64 0, .int .u64 0, .int .u64 0, .int .u64 0] 24)).heap.size := (Array.getElem?_eq_some_iff.1 hZ7).1
          clear hLT7
          have hLT7 := hQ7
          clear hQ7
          generalize (U12.alloc (.cells #[.int .u64 0, .int .u64 0, .int .u64 0, .int .u64 0] 24)) = U15 at hZ6 hZ7 hSA hLT6 hLT7 ⊢
          refine hK.out _ _ hSA (fun hS => ?_)
          clear hK K hSA hBe
          refine wpAnyH_ready (rs := [5]) (by kernel_rfl) (by simp) ?_
          refine AllReadyH.cons rfl (fun K hK => ?_) AllReadyH.nil
          · go_simp
            refine (Cc2.out _).mono ?_
            rintro e U16 ⟨rfl, hbc⟩
            refine hK.out _ _ (hS.trans (hbc.mono hS.size)) (fun hS => ?_)
            replace hZ7 := (hbc.block B7 (Array.getElem?_eq_some_iff.1 hZ7).1).trans hZ7
            replace hLT7 := (Array.getElem?_eq_some_iff.1 hZ7).1
            replace hZ6 := (hbc.block B6 (Array.getElem?_eq_some_iff.1 hZ6).1).trans hZ6
            replace hLT6 := (Array.getElem?_eq_some_iff.1 hZ6).1
            clear hK K hbc
            obtain ⟨a0, a1, a2, a3⟩ := cells4 hZ6
            have fa : ∀ o, U16.frozen? ⟨B6, o, none⟩ = false := fun o => blk_free hZ6
            refine wpAnyH_ready (rs := [8]) (by kernel_rfl) (by simp) (AllReadyH.cons rfl (fun K hK => ?_) AllReadyH.nil)
            go_simp
            have g6 := stored4 (z0 := .int .u64 j0) (z1 := .int .u64 j1) (z2 := .int .u64 j2) (z3 := .int .u64 j3) hZ6
            have hSB := below_stored4 (b := B6) (z0 := .int .u64 j0) (z1 := .int .u64 j1) (z2 := .int .u64 j2) (z3 := .int .u64 j3) hS hL6
            have o7 := (other4 (b := B6) (c := B7) (z0 := .int .u64 j0) (z1 := .int .u64 j1) (z2 := .int .u64 j2) (z3 := .int .u64 j3) (by first | exact hN76 | exact (hN76).symm | exact hN67 | exact (hN67).symm)).trans hZ7
            clear hZ7
            have hZ7 := o7
            clear o7
            generalize ((((U16.setCell ⟨B6, 0, none⟩ (.int .u64 j0)).setCell ⟨B6, 1, none⟩ (.int .u64 j1)).setCell ⟨B6, 2, none⟩ (.int .u64 j2)).setCell ⟨B6, 3, none⟩ (.int .u64 j3)) = U16x at g6 hSB hZ7 ⊢
            refine hK.out _ _ hSB (fun hS => ?_)
            clear hK K hSB a0 a1 a2 a3 fa hZ6
            obtain ⟨a0, a1, a2, a3⟩ := cells4 hZ7
            have fa : ∀ o, U16x.frozen? ⟨B7, o, none⟩ = false := fun o => blk_free hZ7
            refine wpAnyH_ready (rs := [9]) (by kernel_rfl) (by simp) (AllReadyH.cons rfl (fun K hK => ?_) AllReadyH.nil)
            go_simp
            have g7 := stored4 (z0 := .int .u64 b0) (z1 := .int .u64 b1) (z2 := .int .u64 b2) (z3 := .int .u64 b3) hZ7
            have hSB := below_stored4 (b := B7) (z0 := .int .u64 b0) (z1 := .int .u64 b1) (z2 := .int .u64 b2) (z3 := .int .u64 b3) hS hL7
            have o6 := (other4 (b := B7) (c := B6) (z0 := .int .u64 b0) (z1 := .int .u64 b1) (z2 := .int .u64 b2) (z3 := .int .u64 b3) (by first | exact hN67 | exact (hN67).symm | exact hN76 | exact (hN76).symm)).trans g6
            clear g6
            have g6 := o6
            clear o6
            generalize ((((U16x.setCell ⟨B7, 0, none⟩ (.int .u64 b0)).setCell ⟨B7, 1, none⟩ (.int .u64 b1)).setCell ⟨B7, 2, none⟩ (.int .u64 b2)).setCell ⟨B7, 3, none⟩ (.int .u64 b3)) = U16xx at g7 hSB g6 ⊢
            refine hK.out _ _ hSB (fun hS => wpAnyH_done (by kernel_rfl) ?_ _)
            clear hK K
            go_wp2_with fail
            go_meet
            exact ⟨B6, B7, rfl, rfl, g6, g7, hSB⟩
    · go_simp
      obtain ⟨B6, hBe⟩ : ∃ B6, B6 = W0.heap.size := ⟨_, rfl⟩
      have hZ6 : (W0.alloc (.cells #[.int .u64 0, .int .u64 0, .int .u64 0, .int .u64 0] 24)).drew.heap[B6]? = some (.cells #[.int .u64 0, .int .u64 0, .int .u64 0, .int .u64 0] 24 (0, 0)) := by rw [hBe]; exact heap_new _ _
      have hL6 : W0.heap.size ≤ B6 := by rw [hBe]; exact Nat.le_refl _
      have hSA : Below W0.heap.size W0 (W0.alloc (.cells #[.int .u64 0, .int .u64 0, .int .u64 0, .int .u64 0] 24)).drew := ((Below.refl _ W0).alloc (Nat.le_refl _) _).drew
      rw [← hBe]
      have hLT6 : B6 < (W0.alloc (.cells #[.int .u64 0, .int .u64 0, .int .u64 0, .int .u64 0] 24)).drew.heap.size := (Array.getElem?_eq_some_iff.1 hZ6).1
      generalize (W0.alloc (.cells #[.int .u64 0, .int .u64 0, .int .u64 0, .int .u64 0] 24)).drew = U17 at hZ6  hSA hLT6  ⊢
      refine hK.out _ _ hSA (fun hS => ?_)
      clear hK K hSA hBe
      refine wpAnyH_ready (rs := [2, 7]) (by kernel_rfl) (by simp) ?_
      refine AllReadyH.cons rfl (fun K hK => ?_) (AllReadyH.cons rfl (fun K hK => ?_) AllReadyH.nil)
      · go_simp
        refine (Cc1.out _).mono ?_
        rintro e U18 ⟨rfl, hbc⟩
        refine hK.out _ _ (hS.trans (hbc.mono hS.size)) (fun hS => ?_)
        replace hZ6 := (hbc.block B6 (Array.getElem?_eq_some_iff.1 hZ6).1).trans hZ6
        replace hLT6 := (Array.getElem?_eq_some_iff.1 hZ6).1
        clear hK K hbc
        refine wpAnyH_ready (rs := [5, 7]) (by kernel_rfl) (by simp) ?_
        refine AllReadyH.cons rfl (fun K hK => ?_) (AllReadyH.cons rfl (fun K hK => ?_) AllReadyH.nil)
        · go_simp
          refine (Cc2.out _).mono ?_
          rintro e U19 ⟨rfl, hbc⟩
          refine hK.out _ _ (hS.trans (hbc.mono hS.size)) (fun hS => ?_)
          replace hZ6 := (hbc.block B6 (Array.getElem?_eq_some_iff.1 hZ6).1).trans hZ6
          replace hLT6 := (Array.getElem?_eq_some_iff.1 hZ6).1
          clear hK K hbc
          refine wpAnyH_ready (rs := [7]) (by kernel_rfl) (by simp) ?_
          refine AllReadyH.cons rfl (fun K hK => ?_) AllReadyH.nil
          · go_simp
            obtain ⟨B7, hBe⟩ : ∃ B7, B7 = U19.heap.size := ⟨_, rfl⟩
            have hZ7 : (U19.alloc (.cells #[.int .u64 0, .int .u64 0, .int .u64 0, .int .u64 0] 24)).heap[B7]? = some (.cells #[.int .u64 0, .int .u64 0, .int .u64 0, .int .u64 0] 24 (0, 0)) := by rw [hBe]; exact heap_new _ _
            have hL7 : W0.heap.size ≤ B7 := by rw [hBe]; exact hS.size
            have hSA : Below W0.heap.size W0 (U19.alloc (.cells #[.int .u64 0, .int .u64 0, .int .u64 0, .int .u64 0] 24)) := hS.alloc hS.size _
            have hY6 : (U19.alloc (.cells #[.int .u64 0, .int .u64 0, .int .u64 0, .int .u64 0] 24)).heap[B6]? = _ := (heap_old _ _ (Array.getElem?_eq_some_iff.1 hZ6).1).trans hZ6
            clear hZ6
            have hZ6 := hY6
            clear hY6
            have hN76 : B6 ≠ B7 := by rw [hBe]; exact Nat.ne_of_lt (hLT6)
            rw [← hBe]
            have hLT7 : B7 < (U19.alloc (.cells #[.int .u64 0, .int .u64 0, .int .u64 0, .int .u64 0] 24)).heap.size := (Array.getElem?_eq_some_iff.1 hZ7).1
            have hQ6 : B6 < (U19.alloc (.cells #[.int .u64 0, .int .u64 0, .int .u64 0, .int .u64 0] 24)).heap.size := (Array.getElem?_eq_some_iff.1 hZ6).1
            clear hLT6
            have hLT6 := hQ6
            clear hQ6
            generalize (U19.alloc (.cells #[.int .u64 0, .int .u64 0, .int .u64 0, .int .u64 0] 24)) = U20 at hZ7 hZ6 hSA hLT7 hLT6 ⊢
            refine hK.out _ _ hSA (fun hS => ?_)
            clear hK K hSA hBe
            obtain ⟨a0, a1, a2, a3⟩ := cells4 hZ6
            have fa : ∀ o, U20.frozen? ⟨B6, o, none⟩ = false := fun o => blk_free hZ6
            refine wpAnyH_ready (rs := [8]) (by kernel_rfl) (by simp) (AllReadyH.cons rfl (fun K hK => ?_) AllReadyH.nil)
            go_simp
            have g6 := stored4 (z0 := .int .u64 j0) (z1 := .int .u64 j1) (z2 := .int .u64 j2) (z3 := .int .u64 j3) hZ6
            have hSB := below_stored4 (b := B6) (z0 := .int .u64 j0) (z1 := .int .u64 j1) (z2 := .int .u64 j2) (z3 := .int .u64 j3) hS hL6
            have o7 := (other4 (b := B6) (c := B7) (z0 := .int .u64 j0) (z1 := .int .u64 j1) (z2 := .int .u64 j2) (z3 := .int .u64 j3) (by first | exact hN76 | exact (hN76).symm | exact hN67 | exact (hN67).symm)).trans hZ7
            clear hZ7
            have hZ7 := o7
            clear o7
            generalize ((((U20.setCell ⟨B6, 0, none⟩ (.int .u64 j0)).setCell ⟨B6, 1, none⟩ (.int .u64 j1)).setCell ⟨B6, 2, none⟩ (.int .u64 j2)).setCell ⟨B6, 3, none⟩ (.int .u64 j3)) = U20x at g6 hSB hZ7 ⊢
            refine hK.out _ _ hSB (fun hS => ?_)
            clear hK K hSB a0 a1 a2 a3 fa hZ6
            obtain ⟨a0, a1, a2, a3⟩ := cells4 hZ7
            have fa : ∀ o, U20x.frozen? ⟨B7, o, none⟩ = false := fun o => blk_free hZ7
            refine wpAnyH_ready (rs := [9]) (by kernel_rfl) (by simp) (AllReadyH.cons rfl (fun K hK => ?_) AllReadyH.nil)
            go_simp
            have g7 := stored4 (z0 := .int .u64 b0) (z1 := .int .u64 b1) (z2 := .int .u64 b2) (z3 := .int .u64 b3) hZ7
            have hSB := below_stored4 (b := B7) (z0 := .int .u64 b0) (z1 := .int .u64 b1) (z2 := .int .u64 b2) (z3 := .int .u64 b3) hS hL7
            have o6 := (other4 (b := B7) (c := B6) (z0 := .int .u64 b0) (z1 := .int .u64 b1) (z2 := .int .u64 b2) (z3 := .int .u64 b3) (by first | exact hN67 | exact (hN67).symm | exact hN76 | exact (hN76).symm)).trans g6
            clear g6
            have g6 := o6
            clear o6
            generalize ((((U20x.setCell ⟨B7, 0, none⟩ (.int .u64 b0)).setCell ⟨B7, 1, none⟩ (.int .u64 b1)).setCell ⟨B7, 2, none⟩ (.int .u64 b2)).setCell ⟨B7, 3, none⟩ (.int .u64 b3)) = U20xx at g7 hSB g6 ⊢
            refine hK.out _ _ hSB (fun hS => wpAnyH_done (by kernel_rfl) ?_ _)
            clear hK K
            go_wp2_with fail
            go_meet
            exact ⟨B6, B7, rfl, rfl, g6, g7, hSB⟩
        · go_simp
          obtain ⟨B7, hBe⟩ : ∃ B7, B7 = U18.heap.size := ⟨_, rfl⟩
          have hZ7 : (U18.alloc (.cells #[.int .u64 0, .int .u64 0, .int .u64 0, .int .u64 0] 24)).heap[B7]? = some (.cells #[.int .u64 0, .int .u64 0, .int .u64 0, .int .u64 0] 24 (0, 0)) := by rw [hBe]; exact heap_new _ _
          have hL7 : W0.heap.size ≤ B7 := by rw [hBe]; exact hS.size
          have hSA : Below W0.heap.size W0 (U18.alloc (.cells #[.int .u64 0, .int .u64 0, .int .u64 0, .int .u64 0] 24)) := hS.alloc hS.size _
          have hY6 : (U18.alloc (.cells #[.int .u64 0, .int .u64 0, .int .u64 0, .int .u64 0] 24)).heap[B6]? = _ := (heap_old _ _ (Array.getElem?_eq_some_iff.1 hZ6).1).trans hZ6
          clear hZ6
          have hZ6 := hY6
          clear hY6
          have hN76 : B6 ≠ B7 := by rw [hBe]; exact Nat.ne_of_lt (hLT6)
          rw [← hBe]
          have hLT7 : B7 < (U18.alloc (.cells #[.int .u64 0, .int .u64 0, .int .u64 0, .int .u64 0] 24)).heap.size := (Array.getElem?_eq_some_iff.1 hZ7).1
          have hQ6 : B6 < (U18.alloc (.cells #[.int .u64 0, .int .u64 0, .int .u64 0, .int .u64 0] 24)).heap.size := (Array.getElem?_eq_some_iff.1 hZ6).1
          clear hLT6
          have hLT6 := hQ6
          clear hQ6
          generalize (U18.alloc (.cells #[.int .u64 0, .int .u64 0, .int .u64 0, .int .u64 0] 24)) = U21 at hZ7 hZ6 hSA hLT7 hLT6 ⊢
          refine hK.out _ _ hSA (fun hS => ?_)
          clear hK K hSA hBe
          refine wpAnyH_ready (rs := [5]) (by kernel_rfl) (by simp) ?_
          refine AllReadyH.cons rfl (fun K hK => ?_) AllReadyH.nil
          · go_simp
            refine (Cc2.out _).mono ?_
            rintro e U22 ⟨rfl, hbc⟩
            refine hK.out _ _ (hS.trans (hbc.mono hS.size)) (fun hS => ?_)
            replace hZ6 := (hbc.block B6 (Array.getElem?_eq_some_iff.1 hZ6).1).trans hZ6
            replace hLT6 := (Array.getElem?_eq_some_iff.1 hZ6).1
            replace hZ7 := (hbc.block B7 (Array.getElem?_eq_some_iff.1 hZ7).1).trans hZ7
            replace hLT7 := (Array.getElem?_eq_some_iff.1 hZ7).1
            clear hK K hbc
            obtain ⟨a0, a1, a2, a3⟩ := cells4 hZ6
            have fa : ∀ o, U22.frozen? ⟨B6, o, none⟩ = false := fun o => blk_free hZ6
            refine wpAnyH_ready (rs := [8]) (by kernel_rfl) (by simp) (AllReadyH.cons rfl (fun K hK => ?_) AllReadyH.nil)
            go_simp
            have g6 := stored4 (z0 := .int .u64 j0) (z1 := .int .u64 j1) (z2 := .int .u64 j2) (z3 := .int .u64 j3) hZ6
            have hSB := below_stored4 (b := B6) (z0 := .int .u64 j0) (z1 := .int .u64 j1) (z2 := .int .u64 j2) (z3 := .int .u64 j3) hS hL6
            have o7 := (other4 (b := B6) (c := B7) (z0 := .int .u64 j0) (z1 := .int .u64 j1) (z2 := .int .u64 j2) (z3 := .int .u64 j3) (by first | exact hN76 | exact (hN76).symm | exact hN67 | exact (hN67).symm)).trans hZ7
            clear hZ7
            have hZ7 := o7
            clear o7
            generalize ((((U22.setCell ⟨B6, 0, none⟩ (.int .u64 j0)).setCell ⟨B6, 1, none⟩ (.int .u64 j1)).setCell ⟨B6, 2, none⟩ (.int .u64 j2)).setCell ⟨B6, 3, none⟩ (.int .u64 j3)) = U22x at g6 hSB hZ7 ⊢
            refine hK.out _ _ hSB (fun hS => ?_)
            clear hK K hSB a0 a1 a2 a3 fa hZ6
            obtain ⟨a0, a1, a2, a3⟩ := cells4 hZ7
            have fa : ∀ o, U22x.frozen? ⟨B7, o, none⟩ = false := fun o => blk_free hZ7
            refine wpAnyH_ready (rs := [9]) (by kernel_rfl) (by simp) (AllReadyH.cons rfl (fun K hK => ?_) AllReadyH.nil)
            go_simp
            have g7 := stored4 (z0 := .int .u64 b0) (z1 := .int .u64 b1) (z2 := .int .u64 b2) (z3 := .int .u64 b3) hZ7
            have hSB := below_stored4 (b := B7) (z0 := .int .u64 b0) (z1 := .int .u64 b1) (z2 := .int .u64 b2) (z3 := .int .u64 b3) hS hL7
            have o6 := (other4 (b := B7) (c := B6) (z0 := .int .u64 b0) (z1 := .int .u64 b1) (z2 := .int .u64 b2) (z3 := .int .u64 b3) (by first | exact hN67 | exact (hN67).symm | exact hN76 | exact (hN76).symm)).trans g6
            clear g6
            have g6 := o6
            clear o6
            generalize ((((U22x.setCell ⟨B7, 0, none⟩ (.int .u64 b0)).setCell ⟨B7, 1, none⟩ (.int .u64 b1)).setCell ⟨B7, 2, none⟩ (.int .u64 b2)).setCell ⟨B7, 3, none⟩ (.int .u64 b3)) = U22xx at g7 hSB g6 ⊢
            refine hK.out _ _ hSB (fun hS => wpAnyH_done (by kernel_rfl) ?_ _)
            clear hK K
            go_wp2_with fail
            go_meet
            exact ⟨B6, B7, rfl, rfl, g6, g7, hSB⟩
      · go_simp
        obtain ⟨B7, hBe⟩ : ∃ B7, B7 = U17.heap.size := ⟨_, rfl⟩
        have hZ7 : (U17.alloc (.cells #[.int .u64 0, .int .u64 0, .int .u64 0, .int .u64 0] 24)).heap[B7]? = some (.cells #[.int .u64 0, .int .u64 0, .int .u64 0, .int .u64 0] 24 (0, 0)) := by rw [hBe]; exact heap_new _ _
        have hL7 : W0.heap.size ≤ B7 := by rw [hBe]; exact hS.size
        have hSA : Below W0.heap.size W0 (U17.alloc (.cells #[.int .u64 0, .int .u64 0, .int .u64 0, .int .u64 0] 24)) := hS.alloc hS.size _
        have hY6 : (U17.alloc (.cells #[.int .u64 0, .int .u64 0, .int .u64 0, .int .u64 0] 24)).heap[B6]? = _ := (heap_old _ _ (Array.getElem?_eq_some_iff.1 hZ6).1).trans hZ6
        clear hZ6
        have hZ6 := hY6
        clear hY6
        have hN76 : B6 ≠ B7 := by rw [hBe]; exact Nat.ne_of_lt (hLT6)
        rw [← hBe]
        have hLT7 : B7 < (U17.alloc (.cells #[.int .u64 0, .int .u64 0, .int .u64 0, .int .u64 0] 24)).heap.size := (Array.getElem?_eq_some_iff.1 hZ7).1
        have hQ6 : B6 < (U17.alloc (.cells #[.int .u64 0, .int .u64 0, .int .u64 0, .int .u64 0] 24)).heap.size := (Array.getElem?_eq_some_iff.1 hZ6).1
        clear hLT6
        have hLT6 := hQ6
        clear hQ6
        generalize (U17.alloc (.cells #[.int .u64 0, .int .u64 0, .int .u64 0, .int .u64 0] 24)) = U23 at hZ7 hZ6 hSA hLT7 hLT6 ⊢
        refine hK.out _ _ hSA (fun hS => ?_)
        clear hK K hSA hBe
        refine wpAnyH_ready (rs := [2]) (by kernel_rfl) (by simp) ?_
        refine AllReadyH.cons rfl (fun K hK => ?_) AllReadyH.nil
        · go_simp
          refine (Cc1.out _).mono ?_
          rintro e U24 ⟨rfl, hbc⟩
          refine hK.out _ _ (hS.trans (hbc.mono hS.size)) (fun hS => ?_)
          replace hZ6 := (hbc.block B6 (Array.getElem?_eq_some_iff.1 hZ6).1).trans hZ6
          replace hLT6 := (Array.getElem?_eq_some_iff.1 hZ6).1
          replace hZ7 := (hbc.block B7 (Array.getElem?_eq_some_iff.1 hZ7).1).trans hZ7
          replace hLT7 := (Array.getElem?_eq_some_iff.1 hZ7).1
          clear hK K hbc
          refine wpAnyH_ready (rs := [5]) (by kernel_rfl) (by simp) ?_
          refine AllReadyH.cons rfl (fun K hK => ?_) AllReadyH.nil
          · go_simp
            refine (Cc2.out _).mono ?_
            rintro e U25 ⟨rfl, hbc⟩
            refine hK.out _ _ (hS.trans (hbc.mono hS.size)) (fun hS => ?_)
            replace hZ6 := (hbc.block B6 (Array.getElem?_eq_some_iff.1 hZ6).1).trans hZ6
            replace hLT6 := (Array.getElem?_eq_some_iff.1 hZ6).1
            replace hZ7 := (hbc.block B7 (Array.getElem?_eq_some_iff.1 hZ7).1).trans hZ7
            replace hLT7 := (Array.getElem?_eq_some_iff.1 hZ7).1
            clear hK K hbc
            obtain ⟨a0, a1, a2, a3⟩ := cells4 hZ6
            have fa : ∀ o, U25.frozen? ⟨B6, o, none⟩ = false := fun o => blk_free hZ6
            refine wpAnyH_ready (rs := [8]) (by kernel_rfl) (by simp) (AllReadyH.cons rfl (fun K hK => ?_) AllReadyH.nil)
            go_simp
            have g6 := stored4 (z0 := .int .u64 j0) (z1 := .int .u64 j1) (z2 := .int .u64 j2) (z3 := .int .u64 j3) hZ6
            have hSB := below_stored4 (b := B6) (z0 := .int .u64 j0) (z1 := .int .u64 j1) (z2 := .int .u64 j2) (z3 := .int .u64 j3) hS hL6
            have o7 := (other4 (b := B6) (c := B7) (z0 := .int .u64 j0) (z1 := .int .u64 j1) (z2 := .int .u64 j2) (z3 := .int .u64 j3) (by first | exact hN76 | exact (hN76).symm | exact hN67 | exact (hN67).symm)).trans hZ7
            clear hZ7
            have hZ7 := o7
            clear o7
            generalize ((((U25.setCell ⟨B6, 0, none⟩ (.int .u64 j0)).setCell ⟨B6, 1, none⟩ (.int .u64 j1)).setCell ⟨B6, 2, none⟩ (.int .u64 j2)).setCell ⟨B6, 3, none⟩ (.int .u64 j3)) = U25x at g6 hSB hZ7 ⊢
            refine hK.out _ _ hSB (fun hS => ?_)
            clear hK K hSB a0 a1 a2 a3 fa hZ6
            obtain ⟨a0, a1, a2, a3⟩ := cells4 hZ7
            have fa : ∀ o, U25x.frozen? ⟨B7, o, none⟩ = false := fun o => blk_free hZ7
            refine wpAnyH_ready (rs := [9]) (by kernel_rfl) (by simp) (AllReadyH.cons rfl (fun K hK => ?_) AllReadyH.nil)
            go_simp
            have g7 := stored4 (z0 := .int .u64 b0) (z1 := .int .u64 b1) (z2 := .int .u64 b2) (z3 := .int .u64 b3) hZ7
            have hSB := below_stored4 (b := B7) (z0 := .int .u64 b0) (z1 := .int .u64 b1) (z2 := .int .u64 b2) (z3 := .int .u64 b3) hS hL7
            have o6 := (other4 (b := B7) (c := B6) (z0 := .int .u64 b0) (z1 := .int .u64 b1) (z2 := .int .u64 b2) (z3 := .int .u64 b3) (by first | exact hN67 | exact (hN67).symm | exact hN76 | exact (hN76).symm)).trans g6
            clear g6
            have g6 := o6
            clear o6
            generalize ((((U25x.setCell ⟨B7, 0, none⟩ (.int .u64 b0)).setCell ⟨B7, 1, none⟩ (.int .u64 b1)).setCell ⟨B7, 2, none⟩ (.int .u64 b2)).setCell ⟨B7, 3, none⟩ (.int .u64 b3)) = U25xx at g7 hSB g6 ⊢
            refine hK.out _ _ hSB (fun hS => wpAnyH_done (by kernel_rfl) ?_ _)
            clear hK K
            go_wp2_with fail
            go_meet
            exact ⟨B6, B7, rfl, rfl, g6, g7, hSB⟩
    · go_simp
      obtain ⟨B7, hBe⟩ : ∃ B7, B7 = W0.heap.size := ⟨_, rfl⟩
      have hZ7 : (W0.alloc (.cells #[.int .u64 0, .int .u64 0, .int .u64 0, .int .u64 0] 24)).drew.heap[B7]? = some (.cells #[.int .u64 0, .int .u64 0, .int .u64 0, .int .u64 0] 24 (0, 0)) := by rw [hBe]; exact heap_new _ _
      have hL7 : W0.heap.size ≤ B7 := by rw [hBe]; exact Nat.le_refl _
      have hSA : Below W0.heap.size W0 (W0.alloc (.cells #[.int .u64 0, .int .u64 0, .int .u64 0, .int .u64 0] 24)).drew := ((Below.refl _ W0).alloc (Nat.le_refl _) _).drew
      rw [← hBe]
      have hLT7 : B7 < (W0.alloc (.cells #[.int .u64 0, .int .u64 0, .int .u64 0, .int .u64 0] 24)).drew.heap.size := (Array.getElem?_eq_some_iff.1 hZ7).1
      generalize (W0.alloc (.cells #[.int .u64 0, .int .u64 0, .int .u64 0, .int .u64 0] 24)).drew = U26 at hZ7  hSA hLT7  ⊢
      refine hK.out _ _ hSA (fun hS => ?_)
      clear hK K hSA hBe
      refine wpAnyH_ready (rs := [2, 6]) (by kernel_rfl) (by simp) ?_
      refine AllReadyH.cons rfl (fun K hK => ?_) (AllReadyH.cons rfl (fun K hK => ?_) AllReadyH.nil)
      · go_simp
        refine (Cc1.out _).mono ?_
        rintro e U27 ⟨rfl, hbc⟩
        refine hK.out _ _ (hS.trans (hbc.mono hS.size)) (fun hS => ?_)
        replace hZ7 := (hbc.block B7 (Array.getElem?_eq_some_iff.1 hZ7).1).trans hZ7
        replace hLT7 := (Array.getElem?_eq_some_iff.1 hZ7).1
        clear hK K hbc
        refine wpAnyH_ready (rs := [5, 6]) (by kernel_rfl) (by simp) ?_
        refine AllReadyH.cons rfl (fun K hK => ?_) (AllReadyH.cons rfl (fun K hK => ?_) AllReadyH.nil)
        · go_simp
          refine (Cc2.out _).mono ?_
          rintro e U28 ⟨rfl, hbc⟩
          refine hK.out _ _ (hS.trans (hbc.mono hS.size)) (fun hS => ?_)
          replace hZ7 := (hbc.block B7 (Array.getElem?_eq_some_iff.1 hZ7).1).trans hZ7
          replace hLT7 := (Array.getElem?_eq_some_iff.1 hZ7).1
          clear hK K hbc
          refine wpAnyH_ready (rs := [6]) (by kernel_rfl) (by simp) ?_
          refine AllReadyH.cons rfl (fun K hK => ?_) AllReadyH.nil
          · go_simp
            obtain ⟨B6, hBe⟩ : ∃ B6, B6 = U28.heap.size := ⟨_, rfl⟩
            have hZ6 : (U28.alloc (.cells #[.int .u64 0, .int .u64 0, .int .u64 0, .int .u64 0] 24)).heap[B6]? = some (.cells #[.int .u64 0, .int .u64 0, .int .u64 0, .int .u64 0] 24 (0, 0)) := by rw [hBe]; exact heap_new _ _
            have hL6 : W0.heap.size ≤ B6 := by rw [hBe]; exact hS.size
            have hSA : Below W0.heap.size W0 (U28.alloc (.cells #[.int .u64 0, .int .u64 0, .int .u64 0, .int .u64 0] 24)) := hS.alloc hS.size _
            have hY7 : (U28.alloc (.cells #[.int .u64 0, .int .u64 0, .int .u64 0, .int .u64 0] 24)).heap[B7]? = _ := (heap_old _ _ (Array.getElem?_eq_some_iff.1 hZ7).1).trans hZ7
            clear hZ7
            have hZ7 := hY7
            clear hY7
            have hN67 : B7 ≠ B6 := by rw [hBe]; exact Nat.ne_of_lt (hLT7)
            rw [← hBe]
            have hLT6 : B6 < (U28.alloc (.cells #[.int .u64 0, .int .u64 0, .int .u64 0, .int .u64 0] 24)).heap.size := (Array.getElem?_eq_some_iff.1 hZ6).1
            have hQ7 : B7 < (U28.alloc (.cells #[.int .u64 0, .int .u64 0, .int .u64 0, .int .u64 0] 24)).heap.size := (Array.getElem?_eq_some_iff.1 hZ7).1
            clear hLT7
            have hLT7 := hQ7
            clear hQ7
            generalize (U28.alloc (.cells #[.int .u64 0, .int .u64 0, .int .u64 0, .int .u64 0] 24)) = U29 at hZ6 hZ7 hSA hLT6 hLT7 ⊢
            refine hK.out _ _ hSA (fun hS => ?_)
            clear hK K hSA hBe
            obtain ⟨a0, a1, a2, a3⟩ := cells4 hZ6
            have fa : ∀ o, U29.frozen? ⟨B6, o, none⟩ = false := fun o => blk_free hZ6
            refine wpAnyH_ready (rs := [8]) (by kernel_rfl) (by simp) (AllReadyH.cons rfl (fun K hK => ?_) AllReadyH.nil)
            go_simp
            have g6 := stored4 (z0 := .int .u64 j0) (z1 := .int .u64 j1) (z2 := .int .u64 j2) (z3 := .int .u64 j3) hZ6
            have hSB := below_stored4 (b := B6) (z0 := .int .u64 j0) (z1 := .int .u64 j1) (z2 := .int .u64 j2) (z3 := .int .u64 j3) hS hL6
            have o7 := (other4 (b := B6) (c := B7) (z0 := .int .u64 j0) (z1 := .int .u64 j1) (z2 := .int .u64 j2) (z3 := .int .u64 j3) (by first | exact hN76 | exact (hN76).symm | exact hN67 | exact (hN67).symm)).trans hZ7
            clear hZ7
            have hZ7 := o7
            clear o7
            generalize ((((U29.setCell ⟨B6, 0, none⟩ (.int .u64 j0)).setCell ⟨B6, 1, none⟩ (.int .u64 j1)).setCell ⟨B6, 2, none⟩ (.int .u64 j2)).setCell ⟨B6, 3, none⟩ (.int .u64 j3)) = U29x at g6 hSB hZ7 ⊢
            refine hK.out _ _ hSB (fun hS => ?_)
            clear hK K hSB a0 a1 a2 a3 fa hZ6
            obtain ⟨a0, a1, a2, a3⟩ := cells4 hZ7
            have fa : ∀ o, U29x.frozen? ⟨B7, o, none⟩ = false := fun o => blk_free hZ7
            refine wpAnyH_ready (rs := [9]) (by kernel_rfl) (by simp) (AllReadyH.cons rfl (fun K hK => ?_) AllReadyH.nil)
            go_simp
            have g7 := stored4 (z0 := .int .u64 b0) (z1 := .int .u64 b1) (z2 := .int .u64 b2) (z3 := .int .u64 b3) hZ7
            have hSB := below_stored4 (b := B7) (z0 := .int .u64 b0) (z1 := .int .u64 b1) (z2 := .int .u64 b2) (z3 := .int .u64 b3) hS hL7
            have o6 := (other4 (b := B7) (c := B6) (z0 := .int .u64 b0) (z1 := .int .u64 b1) (z2 := .int .u64 b2) (z3 := .int .u64 b3) (by first | exact hN67 | exact (hN67).symm | exact hN76 | exact (hN76).symm)).trans g6
            clear g6
            have g6 := o6
            clear o6
            generalize ((((U29x.setCell ⟨B7, 0, none⟩ (.int .u64 b0)).setCell ⟨B7, 1, none⟩ (.int .u64 b1)).setCell ⟨B7, 2, none⟩ (.int .u64 b2)).setCell ⟨B7, 3, none⟩ (.int .u64 b3)) = U29xx at g7 hSB g6 ⊢
            refine hK.out _ _ hSB (fun hS => wpAnyH_done (by kernel_rfl) ?_ _)
            clear hK K
            go_wp2_with fail
            go_meet
            exact ⟨B6, B7, rfl, rfl, g6, g7, hSB⟩
        · go_simp
          obtain ⟨B6, hBe⟩ : ∃ B6, B6 = U27.heap.size := ⟨_, rfl⟩
          have hZ6 : (U27.alloc (.cells #[.int .u64 0, .int .u64 0, .int .u64 0, .int .u64 0] 24)).heap[B6]? = some (.cells #[.int .u64 0, .int .u64 0, .int .u64 0, .int .u64 0] 24 (0, 0)) := by rw [hBe]; exact heap_new _ _
          have hL6 : W0.heap.size ≤ B6 := by rw [hBe]; exact hS.size
          have hSA : Below W0.heap.size W0 (U27.alloc (.cells #[.int .u64 0, .int .u64 0, .int .u64 0, .int .u64 0] 24)) := hS.alloc hS.size _
          have hY7 : (U27.alloc (.cells #[.int .u64 0, .int .u64 0, .int .u64 0, .int .u64 0] 24)).heap[B7]? = _ := (heap_old _ _ (Array.getElem?_eq_some_iff.1 hZ7).1).trans hZ7
          clear hZ7
          have hZ7 := hY7
          clear hY7
          have hN67 : B7 ≠ B6 := by rw [hBe]; exact Nat.ne_of_lt (hLT7)
          rw [← hBe]
          have hLT6 : B6 < (U27.alloc (.cells #[.int .u64 0, .int .u64 0, .int .u64 0, .int .u64 0] 24)).heap.size := (Array.getElem?_eq_some_iff.1 hZ6).1
          have hQ7 : B7 < (U27.alloc (.cells #[.int .u64 0, .int .u64 0, .int .u64 0, .int .u64 0] 24)).heap.size := (Array.getElem?_eq_some_iff.1 hZ7).1
          clear hLT7
          have hLT7 := hQ7
          clear hQ7
          generalize (U27.alloc (.cells #[.int .u64 0, .int .u64 0, .int .u64 0, .int .u64 0] 24)) = U30 at hZ6 hZ7 hSA hLT6 hLT7 ⊢
          refine hK.out _ _ hSA (fun hS => ?_)
          clear hK K hSA hBe
          refine wpAnyH_ready (rs := [5]) (by kernel_rfl) (by simp) ?_
          refine AllReadyH.cons rfl (fun K hK => ?_) AllReadyH.nil
          · go_simp
            refine (Cc2.out _).mono ?_
            rintro e U31 ⟨rfl, hbc⟩
            refine hK.out _ _ (hS.trans (hbc.mono hS.size)) (fun hS => ?_)
            replace hZ7 := (hbc.block B7 (Array.getElem?_eq_some_iff.1 hZ7).1).trans hZ7
            replace hLT7 := (Array.getElem?_eq_some_iff.1 hZ7).1
            replace hZ6 := (hbc.block B6 (Array.getElem?_eq_some_iff.1 hZ6).1).trans hZ6
            replace hLT6 := (Array.getElem?_eq_some_iff.1 hZ6).1
            clear hK K hbc
            obtain ⟨a0, a1, a2, a3⟩ := cells4 hZ6
            have fa : ∀ o, U31.frozen? ⟨B6, o, none⟩ = false := fun o => blk_free hZ6
            refine wpAnyH_ready (rs := [8]) (by kernel_rfl) (by simp) (AllReadyH.cons rfl (fun K hK => ?_) AllReadyH.nil)
            go_simp
            have g6 := stored4 (z0 := .int .u64 j0) (z1 := .int .u64 j1) (z2 := .int .u64 j2) (z3 := .int .u64 j3) hZ6
            have hSB := below_stored4 (b := B6) (z0 := .int .u64 j0) (z1 := .int .u64 j1) (z2 := .int .u64 j2) (z3 := .int .u64 j3) hS hL6
            have o7 := (other4 (b := B6) (c := B7) (z0 := .int .u64 j0) (z1 := .int .u64 j1) (z2 := .int .u64 j2) (z3 := .int .u64 j3) (by first | exact hN76 | exact (hN76).symm | exact hN67 | exact (hN67).symm)).trans hZ7
            clear hZ7
            have hZ7 := o7
            clear o7
            generalize ((((U31.setCell ⟨B6, 0, none⟩ (.int .u64 j0)).setCell ⟨B6, 1, none⟩ (.int .u64 j1)).setCell ⟨B6, 2, none⟩ (.int .u64 j2)).setCell ⟨B6, 3, none⟩ (.int .u64 j3)) = U31x at g6 hSB hZ7 ⊢
            refine hK.out _ _ hSB (fun hS => ?_)
            clear hK K hSB a0 a1 a2 a3 fa hZ6
            obtain ⟨a0, a1, a2, a3⟩ := cells4 hZ7
            have fa : ∀ o, U31x.frozen? ⟨B7, o, none⟩ = false := fun o => blk_free hZ7
            refine wpAnyH_ready (rs := [9]) (by kernel_rfl) (by simp) (AllReadyH.cons rfl (fun K hK => ?_) AllReadyH.nil)
            go_simp
            have g7 := stored4 (z0 := .int .u64 b0) (z1 := .int .u64 b1) (z2 := .int .u64 b2) (z3 := .int .u64 b3) hZ7
            have hSB := below_stored4 (b := B7) (z0 := .int .u64 b0) (z1 := .int .u64 b1) (z2 := .int .u64 b2) (z3 := .int .u64 b3) hS hL7
            have o6 := (other4 (b := B7) (c := B6) (z0 := .int .u64 b0) (z1 := .int .u64 b1) (z2 := .int .u64 b2) (z3 := .int .u64 b3) (by first | exact hN67 | exact (hN67).symm | exact hN76 | exact (hN76).symm)).trans g6
            clear g6
            have g6 := o6
            clear o6
            generalize ((((U31x.setCell ⟨B7, 0, none⟩ (.int .u64 b0)).setCell ⟨B7, 1, none⟩ (.int .u64 b1)).setCell ⟨B7, 2, none⟩ (.int .u64 b2)).setCell ⟨B7, 3, none⟩ (.int .u64 b3)) = U31xx at g7 hSB g6 ⊢
            refine hK.out _ _ hSB (fun hS => wpAnyH_done (by kernel_rfl) ?_ _)
            clear hK K
            go_wp2_with fail
            go_meet
            exact ⟨B6, B7, rfl, rfl, g6, g7, hSB⟩
      · go_simp
        obtain ⟨B6, hBe⟩ : ∃ B6, B6 = U26.heap.size := ⟨_, rfl⟩
        have hZ6 : (U26.alloc (.cells #[.int .u64 0, .int .u64 0, .int .u64 0, .int .u64 0] 24)).heap[B6]? = some (.cells #[.int .u64 0, .int .u64 0, .int .u64 0, .int .u64 0] 24 (0, 0)) := by rw [hBe]; exact heap_new _ _
        have hL6 : W0.heap.size ≤ B6 := by rw [hBe]; exact hS.size
        have hSA : Below W0.heap.size W0 (U26.alloc (.cells #[.int .u64 0, .int .u64 0, .int .u64 0, .int .u64 0] 24)) := hS.alloc hS.size _
        have hY7 : (U26.alloc (.cells #[.int .u64 0, .int .u64 0, .int .u64 0, .int .u64 0] 24)).heap[B7]? = _ := (heap_old _ _ (Array.getElem?_eq_some_iff.1 hZ7).1).trans hZ7
        clear hZ7
        have hZ7 := hY7
        clear hY7
        have hN67 : B7 ≠ B6 := by rw [hBe]; exact Nat.ne_of_lt (hLT7)
        rw [← hBe]
        have hLT6 : B6 < (U26.alloc (.cells #[.int .u64 0, .int .u64 0, .int .u64 0, .int .u64 0] 24)).heap.size := (Array.getElem?_eq_some_iff.1 hZ6).1
        have hQ7 : B7 < (U26.alloc (.cells #[.int .u64 0, .int .u64 0, .int .u64 0, .int .u64 0] 24)).heap.size := (Array.getElem?_eq_some_iff.1 hZ7).1
        clear hLT7
        have hLT7 := hQ7
        clear hQ7
        generalize (U26.alloc (.cells #[.int .u64 0, .int .u64 0, .int .u64 0, .int .u64 0] 24)) = U32 at hZ6 hZ7 hSA hLT6 hLT7 ⊢
        refine hK.out _ _ hSA (fun hS => ?_)
        clear hK K hSA hBe
        refine wpAnyH_ready (rs := [2]) (by kernel_rfl) (by simp) ?_
        refine AllReadyH.cons rfl (fun K hK => ?_) AllReadyH.nil
        · go_simp
          refine (Cc1.out _).mono ?_
          rintro e U33 ⟨rfl, hbc⟩
          refine hK.out _ _ (hS.trans (hbc.mono hS.size)) (fun hS => ?_)
          replace hZ7 := (hbc.block B7 (Array.getElem?_eq_some_iff.1 hZ7).1).trans hZ7
          replace hLT7 := (Array.getElem?_eq_some_iff.1 hZ7).1
          replace hZ6 := (hbc.block B6 (Array.getElem?_eq_some_iff.1 hZ6).1).trans hZ6
          replace hLT6 := (Array.getElem?_eq_some_iff.1 hZ6).1
          clear hK K hbc
          refine wpAnyH_ready (rs := [5]) (by kernel_rfl) (by simp) ?_
          refine AllReadyH.cons rfl (fun K hK => ?_) AllReadyH.nil
          · go_simp
            refine (Cc2.out _).mono ?_
            rintro e U34 ⟨rfl, hbc⟩
            refine hK.out _ _ (hS.trans (hbc.mono hS.size)) (fun hS => ?_)
            replace hZ7 := (hbc.block B7 (Array.getElem?_eq_some_iff.1 hZ7).1).trans hZ7
            replace hLT7 := (Array.getElem?_eq_some_iff.1 hZ7).1
            replace hZ6 := (hbc.block B6 (Array.getElem?_eq_some_iff.1 hZ6).1).trans hZ6
            replace hLT6 := (Array.getElem?_eq_some_iff.1 hZ6).1
            clear hK K hbc
            obtain ⟨a0, a1, a2, a3⟩ := cells4 hZ6
            have fa : ∀ o, U34.frozen? ⟨B6, o, none⟩ = false := fun o => blk_free hZ6
            refine wpAnyH_ready (rs := [8]) (by kernel_rfl) (by simp) (AllReadyH.cons rfl (fun K hK => ?_) AllReadyH.nil)
            go_simp
            have g6 := stored4 (z0 := .int .u64 j0) (z1 := .int .u64 j1) (z2 := .int .u64 j2) (z3 := .int .u64 j3) hZ6
            have hSB := below_stored4 (b := B6) (z0 := .int .u64 j0) (z1 := .int .u64 j1) (z2 := .int .u64 j2) (z3 := .int .u64 j3) hS hL6
            have o7 := (other4 (b := B6) (c := B7) (z0 := .int .u64 j0) (z1 := .int .u64 j1) (z2 := .int .u64 j2) (z3 := .int .u64 j3) (by first | exact hN76 | exact (hN76).symm | exact hN67 | exact (hN67).symm)).trans hZ7
            clear hZ7
            have hZ7 := o7
            clear o7
            generalize ((((U34.setCell ⟨B6, 0, none⟩ (.int .u64 j0)).setCell ⟨B6, 1, none⟩ (.int .u64 j1)).setCell ⟨B6, 2, none⟩ (.int .u64 j2)).setCell ⟨B6, 3, none⟩ (.int .u64 j3)) = U34x at g6 hSB hZ7 ⊢
            refine hK.out _ _ hSB (fun hS => ?_)
            clear hK K hSB a0 a1 a2 a3 fa hZ6
            obtain ⟨a0, a1, a2, a3⟩ := cells4 hZ7
            have fa : ∀ o, U34x.frozen? ⟨B7, o, none⟩ = false := fun o => blk_free hZ7
            refine wpAnyH_ready (rs := [9]) (by kernel_rfl) (by simp) (AllReadyH.cons rfl (fun K hK => ?_) AllReadyH.nil)
            go_simp
            have g7 := stored4 (z0 := .int .u64 b0) (z1 := .int .u64 b1) (z2 := .int .u64 b2) (z3 := .int .u64 b3) hZ7
            have hSB := below_stored4 (b := B7) (z0 := .int .u64 b0) (z1 := .int .u64 b1) (z2 := .int .u64 b2) (z3 := .int .u64 b3) hS hL7
            have o6 := (other4 (b := B7) (c := B6) (z0 := .int .u64 b0) (z1 := .int .u64 b1) (z2 := .int .u64 b2) (z3 := .int .u64 b3) (by first | exact hN67 | exact (hN67).symm | exact hN76 | exact (hN76).symm)).trans g6
            clear g6
            have g6 := o6
            clear o6
            generalize ((((U34x.setCell ⟨B7, 0, none⟩ (.int .u64 b0)).setCell ⟨B7, 1, none⟩ (.int .u64 b1)).setCell ⟨B7, 2, none⟩ (.int .u64 b2)).setCell ⟨B7, 3, none⟩ (.int .u64 b3)) = U34xx at g7 hSB g6 ⊢
            refine hK.out _ _ hSB (fun hS => wpAnyH_done (by kernel_rfl) ?_ _)
            clear hK K
            go_wp2_with fail
            go_meet
            exact ⟨B6, B7, rfl, rfl, g6, g7, hSB⟩
  case rest =>
    obtain ⟨B, C, rfl, rfl, ga, gb, hbx⟩ := hcut
    have hxb := (hbx.block _ (Array.getElem?_eq_some_iff.1 HXB.out).1).trans HXB.out
    have hyb := (hbx.block _ (Array.getElem?_eq_some_iff.1 HYB.out).1).trans HYB.out
    have hzb := (hbx.block _ (Array.getElem?_eq_some_iff.1 HZB.out).1).trans HZB.out
    have HBW := hideP (HB0.out.trans (hbx.mono HB0.out.size))
    obtain ⟨cx0, cx1, cx2, cx3⟩ := cells4 hxb
    have hlx := (Array.getElem?_eq_some_iff.1 hxb).1
    obtain ⟨cy0, cy1, cy2, cy3⟩ := cells4 hyb
    have hly := (Array.getElem?_eq_some_iff.1 hyb).1
    obtain ⟨cz0, cz1, cz2, cz3⟩ := cells4 hzb
    have hlz := (Array.getElem?_eq_some_iff.1 hzb).1
    obtain ⟨ca0, ca1, ca2, ca3⟩ := cells4 ga
    have hla := (Array.getElem?_eq_some_iff.1 ga).1
    obtain ⟨cb0, cb1, cb2, cb3⟩ := cells4 gb
    have hlb := (Array.getElem?_eq_some_iff.1 gb).1
    clear hbx hxb hyb hzb ga gb HXB HYB HZB HB0
    go_wp2_with fail
    refine wp_region_heldS (S := fun V => Below wc.heap.size wc V) (by kernel_rfl) (Below.refl _ _).drew (fun hS => ?_)
    refine wpAnyH_take (i := 0) (v := ?_) rfl (by kernel_rfl) (by kernel_rfl) (by kernel_rfl) (fun _ _ _ h => h) (Or.inl ⟨by kernel_rfl, ?_⟩) hS ?_
    rotate_left
    · intro V hV
      have k0 := (hV.cell (p := ⟨B, 0, none⟩) hla).trans ca0
      have k1 := (hV.cell (p := ⟨B, 1, none⟩) hla).trans ca1
      have k2 := (hV.cell (p := ⟨B, 2, none⟩) hla).trans ca2
      have k3 := (hV.cell (p := ⟨B, 3, none⟩) hla).trans ca3
      go_simp
      (try with_reducible rfl)
    simp only [Act.put, List.setIfInBounds_toArray]
    refine wpAnyH_take (i := 1) (v := ?_) rfl (by kernel_rfl) (by kernel_rfl) (by kernel_rfl) (fun _ _ _ h => h) (Or.inl ⟨by kernel_rfl, ?_⟩) hS ?_
    rotate_left
    · intro V hV
      have k0 := (hV.cell (p := ⟨w.heap.size + 1, 0, none⟩) hly).trans cy0
      have k1 := (hV.cell (p := ⟨w.heap.size + 1, 1, none⟩) hly).trans cy1
      have k2 := (hV.cell (p := ⟨w.heap.size + 1, 2, none⟩) hly).trans cy2
      have k3 := (hV.cell (p := ⟨w.heap.size + 1, 3, none⟩) hly).trans cy3
      go_simp
      (try with_reducible rfl)
    simp only [Act.put]
    refine wpAnyH_take (i := 2) (v := ?_) rfl (by kernel_rfl) (by kernel_rfl) (by kernel_rfl) (fun _ _ _ h => h) (Or.inl ⟨by kernel_rfl, ?_⟩) hS ?_
    rotate_left
    · intro V hV
      have k0 := (hV.cell (p := ⟨w.heap.size, 0, none⟩) hlx).trans cx0
      have k1 := (hV.cell (p := ⟨w.heap.size, 1, none⟩) hlx).trans cx1
      have k2 := (hV.cell (p := ⟨w.heap.size, 2, none⟩) hlx).trans cx2
      have k3 := (hV.cell (p := ⟨w.heap.size, 3, none⟩) hlx).trans cx3
      go_simp
      (try with_reducible rfl)
    simp only [Act.put]
    refine wpAnyH_ready (rs := [3]) (by kernel_rfl) (by simp) (AllReadyH.cons rfl (fun K hK => ?_) AllReadyH.nil)
    go_simp
    refine (Cr1.out _).mono ?_
    rintro e U1 ⟨rfl, hbc⟩
    refine hK.out _ _ (hS.trans (hbc.mono hS.size)) (fun hS => ?_)
    clear hK K hbc
    refine wpAnyH_take (i := 4) (v := ?_) rfl (by kernel_rfl) (by kernel_rfl) (by kernel_rfl) (fun _ _ _ h => h) (Or.inl ⟨by kernel_rfl, ?_⟩) hS ?_
    rotate_left
    · intro V hV
      go_simp
      (try with_reducible rfl)
    simp only [Act.put]
    refine wpAnyH_take (i := 5) (v := ?_) rfl (by kernel_rfl) (by kernel_rfl) (by kernel_rfl) (fun _ _ _ h => h) (Or.inl ⟨by kernel_rfl, ?_⟩) hS ?_
    rotate_left
    · intro V hV
      go_simp
      (try with_reducible rfl)
    simp only [Act.put]
    refine wpAnyH_take (i := 6) (v := ?_) rfl (by kernel_rfl) (by kernel_rfl) (by kernel_rfl) (fun _ _ _ h => h) (Or.inl ⟨by kernel_rfl, ?_⟩) hS ?_
    rotate_left
    · intro V hV
      have k0 := (hV.cell (p := ⟨C, 0, none⟩) hlb).trans cb0
      have k1 := (hV.cell (p := ⟨C, 1, none⟩) hlb).trans cb1
      have k2 := (hV.cell (p := ⟨C, 2, none⟩) hlb).trans cb2
      have k3 := (hV.cell (p := ⟨C, 3, none⟩) hlb).trans cb3
      go_simp
      (try with_reducible rfl)
    simp only [Act.put]
    refine wpAnyH_take (i := 7) (v := ?_) rfl (by kernel_rfl) (by kernel_rfl) (by kernel_rfl) (fun _ _ _ h => h) (Or.inl ⟨by kernel_rfl, ?_⟩) hS ?_
    rotate_left
    · intro V hV
      have k0 := (hV.cell (p := ⟨w.heap.size + 1, 0, none⟩) hly).trans cy0
      have k1 := (hV.cell (p := ⟨w.heap.size + 1, 1, none⟩) hly).trans cy1
      have k2 := (hV.cell (p := ⟨w.heap.size + 1, 2, none⟩) hly).trans cy2
      have k3 := (hV.cell (p := ⟨w.heap.size + 1, 3, none⟩) hly).trans cy3
      go_simp
      (try with_reducible rfl)
    simp only [Act.put]
    refine wpAnyH_take (i := 8) (v := ?_) rfl (by kernel_rfl) (by kernel_rfl) (by kernel_rfl) (fun _ _ _ h => h) (Or.inl ⟨by kernel_rfl, ?_⟩) hS ?_
    rotate_left
    · intro V hV
      have k0 := (hV.cell (p := ⟨w.heap.size, 0, none⟩) hlx).trans cx0
      have k1 := (hV.cell (p := ⟨w.heap.size, 1, none⟩) hlx).trans cx1
      have k2 := (hV.cell (p := ⟨w.heap.size, 2, none⟩) hlx).trans cx2
      have k3 := (hV.cell (p := ⟨w.heap.size, 3, none⟩) hlx).trans cx3
      go_simp
      (try with_reducible rfl)
    simp only [Act.put]
    refine wpAnyH_ready (rs := [9]) (by kernel_rfl) (by simp) (AllReadyH.cons rfl (fun K hK => ?_) AllReadyH.nil)
    go_simp
    refine (Cr2.out _).mono ?_
    rintro e U2 ⟨rfl, hbc⟩
    refine hK.out _ _ (hS.trans (hbc.mono hS.size)) (fun hS => ?_)
    clear hK K hbc
    refine wpAnyH_take (i := 10) (v := ?_) rfl (by kernel_rfl) (by kernel_rfl) (by kernel_rfl) (fun _ _ _ h => h) (Or.inl ⟨by kernel_rfl, ?_⟩) hS ?_
    rotate_left
    · intro V hV
      go_simp
      (try with_reducible rfl)
    simp only [Act.put]
    refine wpAnyH_take (i := 11) (v := ?_) rfl (by kernel_rfl) (by kernel_rfl) (by kernel_rfl) (fun _ _ _ h => h) (Or.inl ⟨by kernel_rfl, ?_⟩) hS ?_
    rotate_left
    · intro V hV
      go_simp
      (try with_reducible rfl)
    simp only [Act.put]
    refine wpAnyH_take (i := 12) (v := ?_) rfl (by kernel_rfl) (by kernel_rfl) (by kernel_rfl) (fun _ _ _ h => h) (Or.inl ⟨by kernel_rfl, ?_⟩) hS ?_
    rotate_left
    · intro V hV
      go_simp
      (try with_reducible rfl)
    simp only [Act.put]
    refine wpAnyH_take (i := 13) (v := ?_) rfl (by kernel_rfl) (by kernel_rfl) (by kernel_rfl) (fun _ _ _ h => h) (Or.inl ⟨by kernel_rfl, ?_⟩) hS ?_
    rotate_left
    · intro V hV
      have k0 := (hV.cell (p := ⟨B, 0, none⟩) hla).trans ca0
      have k1 := (hV.cell (p := ⟨B, 1, none⟩) hla).trans ca1
      have k2 := (hV.cell (p := ⟨B, 2, none⟩) hla).trans ca2
      have k3 := (hV.cell (p := ⟨B, 3, none⟩) hla).trans ca3
      go_simp
      (try with_reducible rfl)
    simp only [Act.put]
    refine wpAnyH_take (i := 14) (v := ?_) rfl (by kernel_rfl) (by kernel_rfl) (by kernel_rfl) (fun _ _ _ h => h) (Or.inl ⟨by kernel_rfl, ?_⟩) hS ?_
    rotate_left
    · intro V hV
      have k0 := (hV.cell (p := ⟨w.heap.size + 1 + 1, 0, none⟩) hlz).trans cz0
      have k1 := (hV.cell (p := ⟨w.heap.size + 1 + 1, 1, none⟩) hlz).trans cz1
      have k2 := (hV.cell (p := ⟨w.heap.size + 1 + 1, 2, none⟩) hlz).trans cz2
      have k3 := (hV.cell (p := ⟨w.heap.size + 1 + 1, 3, none⟩) hlz).trans cz3
      go_simp
      (try with_reducible rfl)
    simp only [Act.put]
    refine wpAnyH_take (i := 16) (v := ?_) rfl (by kernel_rfl) (by kernel_rfl) (by kernel_rfl) (fun _ _ _ h => h) (Or.inl ⟨by kernel_rfl, ?_⟩) hS ?_
    rotate_left
    · intro V hV
      have k0 := (hV.cell (p := ⟨w.heap.size, 0, none⟩) hlx).trans cx0
      have k1 := (hV.cell (p := ⟨w.heap.size, 1, none⟩) hlx).trans cx1
      have k2 := (hV.cell (p := ⟨w.heap.size, 2, none⟩) hlx).trans cx2
      have k3 := (hV.cell (p := ⟨w.heap.size, 3, none⟩) hlx).trans cx3
      go_simp
      (try with_reducible rfl)
    simp only [Act.put]
    refine wpAnyH_take (i := 17) (v := ?_) rfl (by kernel_rfl) (by kernel_rfl) (by kernel_rfl) (fun _ _ _ h => h) (Or.inl ⟨by kernel_rfl, ?_⟩) hS ?_
    rotate_left
    · intro V hV
      have k0 := (hV.cell (p := ⟨w.heap.size + 1, 0, none⟩) hly).trans cy0
      have k1 := (hV.cell (p := ⟨w.heap.size + 1, 1, none⟩) hly).trans cy1
      have k2 := (hV.cell (p := ⟨w.heap.size + 1, 2, none⟩) hly).trans cy2
      have k3 := (hV.cell (p := ⟨w.heap.size + 1, 3, none⟩) hly).trans cy3
      go_simp
      (try with_reducible rfl)
    simp only [Act.put]
    refine wpAnyH_take (i := 18) (v := ?_) rfl (by kernel_rfl) (by kernel_rfl) (by kernel_rfl) (fun _ _ _ h => h) (Or.inl ⟨by kernel_rfl, ?_⟩) hS ?_
    rotate_left
    · intro V hV
      have k0 := (hV.cell (p := ⟨w.heap.size + 1 + 1, 0, none⟩) hlz).trans cz0
      have k1 := (hV.cell (p := ⟨w.heap.size + 1 + 1, 1, none⟩) hlz).trans cz1
      have k2 := (hV.cell (p := ⟨w.heap.size + 1 + 1, 2, none⟩) hlz).trans cz2
      have k3 := (hV.cell (p := ⟨w.heap.size + 1 + 1, 3, none⟩) hlz).trans cz3
      go_simp
      (try with_reducible rfl)
    simp only [Act.put]
    refine wpAnyH_ready (rs := [15]) (by kernel_rfl) (by simp) (AllReadyH.cons rfl (fun K hK => ?_) AllReadyH.nil)
    go_simp
    refine (Cr3.out _).mono ?_
    rintro e U3 ⟨rfl, hbc⟩
    refine hK.out _ _ (hS.trans (hbc.mono hS.size)) (fun hS => ?_)
    clear hK K hbc
    refine wpAnyH_ready (rs := [19]) (by kernel_rfl) (by simp) (AllReadyH.cons rfl (fun K hK => ?_) AllReadyH.nil)
    go_simp
    refine (Cr4.out _).mono ?_
    rintro e U4 ⟨rfl, hbc⟩
    refine hK.out _ _ (hS.trans (hbc.mono hS.size)) (fun hS => ?_)
    clear hK K hbc
    refine wpAnyH_ready (rs := [20]) (by kernel_rfl) (by simp) (AllReadyH.cons rfl (fun K hK => ?_) AllReadyH.nil)
    go_simp
    refine (Cr5.out _).mono ?_
    rintro e U5 ⟨rfl, hbc⟩
    refine hK.out _ _ (hS.trans (hbc.mono hS.size)) (fun hS => ?_)
    clear hK K hbc
    refine wpAnyH_take (i := 21) (v := ?_) rfl (by kernel_rfl) (by kernel_rfl) (by kernel_rfl) (fun _ _ _ h => h) (Or.inl ⟨by kernel_rfl, ?_⟩) hS ?_
    rotate_left
    · intro V hV
      go_simp
      (try with_reducible rfl)
    simp only [Act.put]
    refine wpAnyH_take (i := 22) (v := ?_) rfl (by kernel_rfl) (by kernel_rfl) (by kernel_rfl) (fun _ _ _ h => h) (Or.inl ⟨by kernel_rfl, ?_⟩) hS ?_
    rotate_left
    · intro V hV
      go_simp
      (try with_reducible rfl)
    simp only [Act.put]
    refine wpAnyH_take (i := 23) (v := ?_) rfl (by kernel_rfl) (by kernel_rfl) (by kernel_rfl) (fun _ _ _ h => h) (Or.inl ⟨by kernel_rfl, ?_⟩) hS ?_
    rotate_left
    · intro V hV
      go_simp
      (try with_reducible rfl)
    simp only [Act.put]
    refine wpAnyH_take (i := 24) (v := ?_) rfl (by kernel_rfl) (by kernel_rfl) (by kernel_rfl) (fun _ _ _ h => h) (Or.inl ⟨by kernel_rfl, ?_⟩) hS ?_
    rotate_left
    · intro V hV
      have k0 := (hV.cell (p := ⟨C, 0, none⟩) hlb).trans cb0
      have k1 := (hV.cell (p := ⟨C, 1, none⟩) hlb).trans cb1
      have k2 := (hV.cell (p := ⟨C, 2, none⟩) hlb).trans cb2
      have k3 := (hV.cell (p := ⟨C, 3, none⟩) hlb).trans cb3
      go_simp
      (try with_reducible rfl)
    simp only [Act.put]
    refine wpAnyH_take (i := 25) (v := ?_) rfl (by kernel_rfl) (by kernel_rfl) (by kernel_rfl) (fun _ _ _ h => h) (Or.inl ⟨by kernel_rfl, ?_⟩) hS ?_
    rotate_left
    · intro V hV
      have k0 := (hV.cell (p := ⟨w.heap.size + 1 + 1, 0, none⟩) hlz).trans cz0
      have k1 := (hV.cell (p := ⟨w.heap.size + 1 + 1, 1, none⟩) hlz).trans cz1
      have k2 := (hV.cell (p := ⟨w.heap.size + 1 + 1, 2, none⟩) hlz).trans cz2
      have k3 := (hV.cell (p := ⟨w.heap.size + 1 + 1, 3, none⟩) hlz).trans cz3
      go_simp
      (try with_reducible rfl)
    simp only [Act.put]
    refine wpAnyH_take (i := 27) (v := ?_) rfl (by kernel_rfl) (by kernel_rfl) (by kernel_rfl) (fun _ _ _ h => h) (Or.inl ⟨by kernel_rfl, ?_⟩) hS ?_
    rotate_left
    · intro V hV
      have k0 := (hV.cell (p := ⟨w.heap.size, 0, none⟩) hlx).trans cx0
      have k1 := (hV.cell (p := ⟨w.heap.size, 1, none⟩) hlx).trans cx1
      have k2 := (hV.cell (p := ⟨w.heap.size, 2, none⟩) hlx).trans cx2
      have k3 := (hV.cell (p := ⟨w.heap.size, 3, none⟩) hlx).trans cx3
      go_simp
      (try with_reducible rfl)
    simp only [Act.put]
    refine wpAnyH_take (i := 28) (v := ?_) rfl (by kernel_rfl) (by kernel_rfl) (by kernel_rfl) (fun _ _ _ h => h) (Or.inl ⟨by kernel_rfl, ?_⟩) hS ?_
    rotate_left
    · intro V hV
      have k0 := (hV.cell (p := ⟨w.heap.size + 1, 0, none⟩) hly).trans cy0
      have k1 := (hV.cell (p := ⟨w.heap.size + 1, 1, none⟩) hly).trans cy1
      have k2 := (hV.cell (p := ⟨w.heap.size + 1, 2, none⟩) hly).trans cy2
      have k3 := (hV.cell (p := ⟨w.heap.size + 1, 3, none⟩) hly).trans cy3
      go_simp
      (try with_reducible rfl)
    simp only [Act.put]
    refine wpAnyH_take (i := 29) (v := ?_) rfl (by kernel_rfl) (by kernel_rfl) (by kernel_rfl) (fun _ _ _ h => h) (Or.inl ⟨by kernel_rfl, ?_⟩) hS ?_
    rotate_left
    · intro V hV
      have k0 := (hV.cell (p := ⟨w.heap.size + 1 + 1, 0, none⟩) hlz).trans cz0
      have k1 := (hV.cell (p := ⟨w.heap.size + 1 + 1, 1, none⟩) hlz).trans cz1
      have k2 := (hV.cell (p := ⟨w.heap.size + 1 + 1, 2, none⟩) hlz).trans cz2
      have k3 := (hV.cell (p := ⟨w.heap.size + 1 + 1, 3, none⟩) hlz).trans cz3
      go_simp
      (try with_reducible rfl)
    simp only [Act.put]
    refine wpAnyH_ready (rs := [26]) (by kernel_rfl) (by simp) (AllReadyH.cons rfl (fun K hK => ?_) AllReadyH.nil)
    go_simp
    refine (Cr6.out _).mono ?_
    rintro e U6 ⟨rfl, hbc⟩
    refine hK.out _ _ (hS.trans (hbc.mono hS.size)) (fun hS => ?_)
    clear hK K hbc
    refine wpAnyH_ready (rs := [30]) (by kernel_rfl) (by simp) (AllReadyH.cons rfl (fun K hK => ?_) AllReadyH.nil)
    go_simp
    refine (Cr7.out _).mono ?_
    rintro e U7 ⟨rfl, hbc⟩
    refine hK.out _ _ (hS.trans (hbc.mono hS.size)) (fun hS => ?_)
    clear hK K hbc
    refine wpAnyH_ready (rs := [31]) (by kernel_rfl) (by simp) (AllReadyH.cons rfl (fun K hK => ?_) AllReadyH.nil)
    go_simp
    refine (Cr8.out _).mono ?_
    rintro e U8 ⟨rfl, hbc⟩
    refine hK.out _ _ (hS.trans (hbc.mono hS.size)) (fun hS => ?_)
    clear hK K hbc
    refine wpAnyH_take (i := 32) (v := ?_) rfl (by kernel_rfl) (by kernel_rfl) (by kernel_rfl) (fun _ _ _ h => h) (Or.inl ⟨by kernel_rfl, ?_⟩) hS ?_
    rotate_left
    · intro V hV
      go_simp
      (try with_reducible rfl)
    simp only [Act.put]
    refine wpAnyH_take (i := 33) (v := ?_) rfl (by kernel_rfl) (by kernel_rfl) (by kernel_rfl) (fun _ _ _ h => h) (Or.inl ⟨by kernel_rfl, ?_⟩) hS ?_
    rotate_left
    · intro V hV
      go_simp
      (try with_reducible rfl)
    simp only [Act.put]
    refine wpAnyH_take (i := 34) (v := ?_) rfl (by kernel_rfl) (by kernel_rfl) (by kernel_rfl) (fun _ _ _ h => h) (Or.inl ⟨by kernel_rfl, ?_⟩) hS ?_
    rotate_left
    · intro V hV
      go_simp
      (try with_reducible rfl)
    simp only [Act.put]
    refine wpAnyH_take (i := 35) (v := ?_) rfl (by kernel_rfl) (by kernel_rfl) (by kernel_rfl) (fun _ _ _ h => h) (Or.inl ⟨by kernel_rfl, ?_⟩) hS ?_
    rotate_left
    · intro V hV
      have k0 := (hV.cell (p := ⟨w.heap.size, 0, none⟩) hlx).trans cx0
      have k1 := (hV.cell (p := ⟨w.heap.size, 1, none⟩) hlx).trans cx1
      have k2 := (hV.cell (p := ⟨w.heap.size, 2, none⟩) hlx).trans cx2
      have k3 := (hV.cell (p := ⟨w.heap.size, 3, none⟩) hlx).trans cx3
      go_simp
      (try with_reducible rfl)
    simp only [Act.put]
    refine wpAnyH_take (i := 36) (v := ?_) rfl (by kernel_rfl) (by kernel_rfl) (by kernel_rfl) (fun _ _ _ h => h) (Or.inl ⟨by kernel_rfl, ?_⟩) hS ?_
    rotate_left
    · intro V hV
      have k0 := (hV.cell (p := ⟨w.heap.size + 1, 0, none⟩) hly).trans cy0
      have k1 := (hV.cell (p := ⟨w.heap.size + 1, 1, none⟩) hly).trans cy1
      have k2 := (hV.cell (p := ⟨w.heap.size + 1, 2, none⟩) hly).trans cy2
      have k3 := (hV.cell (p := ⟨w.heap.size + 1, 3, none⟩) hly).trans cy3
      go_simp
      (try with_reducible rfl)
    simp only [Act.put]
    refine wpAnyH_take (i := 37) (v := ?_) rfl (by kernel_rfl) (by kernel_rfl) (by kernel_rfl) (fun _ _ _ h => h) (Or.inl ⟨by kernel_rfl, ?_⟩) hS ?_
    rotate_left
    · intro V hV
      have k0 := (hV.cell (p := ⟨w.heap.size + 1 + 1, 0, none⟩) hlz).trans cz0
      have k1 := (hV.cell (p := ⟨w.heap.size + 1 + 1, 1, none⟩) hlz).trans cz1
      have k2 := (hV.cell (p := ⟨w.heap.size + 1 + 1, 2, none⟩) hlz).trans cz2
      have k3 := (hV.cell (p := ⟨w.heap.size + 1 + 1, 3, none⟩) hlz).trans cz3
      go_simp
      (try with_reducible rfl)
    simp only [Act.put]
    refine wpAnyH_take (i := 40) (v := ?_) rfl (by kernel_rfl) (by kernel_rfl) (by kernel_rfl) (fun _ _ _ h => h) (Or.inl ⟨by kernel_rfl, ?_⟩) hS ?_
    rotate_left
    · intro V hV
      have k0 := (hV.cell (p := ⟨C, 0, none⟩) hlb).trans cb0
      have k1 := (hV.cell (p := ⟨C, 1, none⟩) hlb).trans cb1
      have k2 := (hV.cell (p := ⟨C, 2, none⟩) hlb).trans cb2
      have k3 := (hV.cell (p := ⟨C, 3, none⟩) hlb).trans cb3
      go_simp
      (try with_reducible rfl)
    simp only [Act.put]
    refine wpAnyH_take (i := 41) (v := ?_) rfl (by kernel_rfl) (by kernel_rfl) (by kernel_rfl) (fun _ _ _ h => h) (Or.inl ⟨by kernel_rfl, ?_⟩) hS ?_
    rotate_left
    · intro V hV
      have k0 := (hV.cell (p := ⟨w.heap.size, 0, none⟩) hlx).trans cx0
      have k1 := (hV.cell (p := ⟨w.heap.size, 1, none⟩) hlx).trans cx1
      have k2 := (hV.cell (p := ⟨w.heap.size, 2, none⟩) hlx).trans cx2
      have k3 := (hV.cell (p := ⟨w.heap.size, 3, none⟩) hlx).trans cx3
      go_simp
      (try with_reducible rfl)
    simp only [Act.put]
    refine wpAnyH_take (i := 42) (v := ?_) rfl (by kernel_rfl) (by kernel_rfl) (by kernel_rfl) (fun _ _ _ h => h) (Or.inl ⟨by kernel_rfl, ?_⟩) hS ?_
    rotate_left
    · intro V hV
      have k0 := (hV.cell (p := ⟨w.heap.size + 1 + 1, 0, none⟩) hlz).trans cz0
      have k1 := (hV.cell (p := ⟨w.heap.size + 1 + 1, 1, none⟩) hlz).trans cz1
      have k2 := (hV.cell (p := ⟨w.heap.size + 1 + 1, 2, none⟩) hlz).trans cz2
      have k3 := (hV.cell (p := ⟨w.heap.size + 1 + 1, 3, none⟩) hlz).trans cz3
      go_simp
      (try with_reducible rfl)
    simp only [Act.put]
    refine wpAnyH_ready (rs := [38]) (by kernel_rfl) (by simp) (AllReadyH.cons rfl (fun K hK => ?_) AllReadyH.nil)
    go_simp
    refine (Cr4.out _).mono ?_
    rintro e U9 ⟨rfl, hbc⟩
    refine hK.out _ _ (hS.trans (hbc.mono hS.size)) (fun hS => ?_)
    clear hK K hbc
    refine wpAnyH_ready (rs := [39]) (by kernel_rfl) (by simp) (AllReadyH.cons rfl (fun K hK => ?_) AllReadyH.nil)
    go_simp
    refine (Cr10.out _).mono ?_
    rintro e U10 ⟨rfl, hbc⟩
    refine hK.out _ _ (hS.trans (hbc.mono hS.size)) (fun hS => ?_)
    clear hK K hbc
    refine wpAnyH_ready (rs := [43]) (by kernel_rfl) (by simp) (AllReadyH.cons rfl (fun K hK => ?_) AllReadyH.nil)
    go_simp
    refine (Cr11.out _).mono ?_
    rintro e U11 ⟨rfl, hbc⟩
    refine hK.out _ _ (hS.trans (hbc.mono hS.size)) (fun hS => ?_)
    clear hK K hbc
    refine wpAnyH_ready (rs := [44]) (by kernel_rfl) (by simp) (AllReadyH.cons rfl (fun K hK => ?_) AllReadyH.nil)
    go_simp
    refine (Cr12.out _).mono ?_
    rintro e U12 ⟨rfl, hbc⟩
    refine hK.out _ _ (hS.trans (hbc.mono hS.size)) (fun hS => ?_)
    clear hK K hbc
    refine wpAnyH_take (i := 45) (v := ?_) rfl (by kernel_rfl) (by kernel_rfl) (by kernel_rfl) (fun _ _ _ h => h) (Or.inl ⟨by kernel_rfl, ?_⟩) hS ?_
    rotate_left
    · intro V hV
      go_simp
      (try with_reducible rfl)
    simp only [Act.put]
    refine wpAnyH_take (i := 46) (v := ?_) rfl (by kernel_rfl) (by kernel_rfl) (by kernel_rfl) (fun _ _ _ h => h) (Or.inl ⟨by kernel_rfl, ?_⟩) hS ?_
    rotate_left
    · intro V hV
      go_simp
      (try with_reducible rfl)
    simp only [Act.put]
    refine wpAnyH_take (i := 47) (v := ?_) rfl (by kernel_rfl) (by kernel_rfl) (by kernel_rfl) (fun _ _ _ h => h) (Or.inl ⟨by kernel_rfl, ?_⟩) hS ?_
    rotate_left
    · intro V hV
      go_simp
      (try with_reducible rfl)
    simp only [Act.put]
    refine wpAnyH_take (i := 48) (v := ?_) rfl (by kernel_rfl) (by kernel_rfl) (by kernel_rfl) (fun _ _ _ h => h) (Or.inl ⟨by kernel_rfl, ?_⟩) hS ?_
    rotate_left
    · intro V hV
      have k0 := (hV.cell (p := ⟨B, 0, none⟩) hla).trans ca0
      have k1 := (hV.cell (p := ⟨B, 1, none⟩) hla).trans ca1
      have k2 := (hV.cell (p := ⟨B, 2, none⟩) hla).trans ca2
      have k3 := (hV.cell (p := ⟨B, 3, none⟩) hla).trans ca3
      go_simp
      (try with_reducible rfl)
    simp only [Act.put]
    refine wpAnyH_take (i := 49) (v := ?_) rfl (by kernel_rfl) (by kernel_rfl) (by kernel_rfl) (fun _ _ _ h => h) (Or.inl ⟨by kernel_rfl, ?_⟩) hS ?_
    rotate_left
    · intro V hV
      have k0 := (hV.cell (p := ⟨w.heap.size + 1, 0, none⟩) hly).trans cy0
      have k1 := (hV.cell (p := ⟨w.heap.size + 1, 1, none⟩) hly).trans cy1
      have k2 := (hV.cell (p := ⟨w.heap.size + 1, 2, none⟩) hly).trans cy2
      have k3 := (hV.cell (p := ⟨w.heap.size + 1, 3, none⟩) hly).trans cy3
      go_simp
      (try with_reducible rfl)
    simp only [Act.put]
    refine wpAnyH_take (i := 51) (v := ?_) rfl (by kernel_rfl) (by kernel_rfl) (by kernel_rfl) (fun _ _ _ h => h) (Or.inl ⟨by kernel_rfl, ?_⟩) hS ?_
    rotate_left
    · intro V hV
      have k0 := (hV.cell (p := ⟨w.heap.size, 0, none⟩) hlx).trans cx0
      have k1 := (hV.cell (p := ⟨w.heap.size, 1, none⟩) hlx).trans cx1
      have k2 := (hV.cell (p := ⟨w.heap.size, 2, none⟩) hlx).trans cx2
      have k3 := (hV.cell (p := ⟨w.heap.size, 3, none⟩) hlx).trans cx3
      go_simp
      (try with_reducible rfl)
    simp only [Act.put]
    refine wpAnyH_ready (rs := [50]) (by kernel_rfl) (by simp) (AllReadyH.cons rfl (fun K hK => ?_) AllReadyH.nil)
    go_simp
    refine (Cr13.out _).mono ?_
    rintro e U13 ⟨rfl, hbc⟩
    refine hK.out _ _ (hS.trans (hbc.mono hS.size)) (fun hS => ?_)
    clear hK K hbc
    refine wpAnyH_take (i := 52) (v := ?_) rfl (by kernel_rfl) (by kernel_rfl) (by kernel_rfl) (fun _ _ _ h => h) (Or.inl ⟨by kernel_rfl, ?_⟩) hS ?_
    rotate_left
    · intro V hV
      go_simp
      (try with_reducible rfl)
    simp only [Act.put]
    refine wpAnyH_take (i := 53) (v := ?_) rfl (by kernel_rfl) (by kernel_rfl) (by kernel_rfl) (fun _ _ _ h => h) (Or.inl ⟨by kernel_rfl, ?_⟩) hS ?_
    rotate_left
    · intro V hV
      go_simp
      (try with_reducible rfl)
    simp only [Act.put]
    refine wpAnyH_take (i := 54) (v := ?_) rfl (by kernel_rfl) (by kernel_rfl) (by kernel_rfl) (fun _ _ _ h => h) (Or.inl ⟨by kernel_rfl, ?_⟩) hS ?_
    rotate_left
    · intro V hV
      go_simp
      (try with_reducible rfl)
    simp only [Act.put]
    refine wpAnyH_take (i := 55) (v := ?_) rfl (by kernel_rfl) (by kernel_rfl) (by kernel_rfl) (fun _ _ _ h => h) (Or.inl ⟨by kernel_rfl, ?_⟩) hS ?_
    rotate_left
    · intro V hV
      have k0 := (hV.cell (p := ⟨w.heap.size, 0, none⟩) hlx).trans cx0
      have k1 := (hV.cell (p := ⟨w.heap.size, 1, none⟩) hlx).trans cx1
      have k2 := (hV.cell (p := ⟨w.heap.size, 2, none⟩) hlx).trans cx2
      have k3 := (hV.cell (p := ⟨w.heap.size, 3, none⟩) hlx).trans cx3
      go_simp
      (try with_reducible rfl)
    simp only [Act.put]
    refine wpAnyH_take (i := 58) (v := ?_) rfl (by kernel_rfl) (by kernel_rfl) (by kernel_rfl) (fun _ _ _ h => h) (Or.inl ⟨by kernel_rfl, ?_⟩) hS ?_
    rotate_left
    · intro V hV
      have k0 := (hV.cell (p := ⟨w.heap.size, 0, none⟩) hlx).trans cx0
      have k1 := (hV.cell (p := ⟨w.heap.size, 1, none⟩) hlx).trans cx1
      have k2 := (hV.cell (p := ⟨w.heap.size, 2, none⟩) hlx).trans cx2
      have k3 := (hV.cell (p := ⟨w.heap.size, 3, none⟩) hlx).trans cx3
      go_simp
      (try with_reducible rfl)
    simp only [Act.put]
    refine wpAnyH_ready (rs := [56]) (by kernel_rfl) (by simp) (AllReadyH.cons rfl (fun K hK => ?_) AllReadyH.nil)
    go_simp
    refine (Cr14.out _).mono ?_
    rintro e U14 ⟨rfl, hbc⟩
    refine hK.out _ _ (hS.trans (hbc.mono hS.size)) (fun hS => ?_)
    clear hK K hbc
    refine wpAnyH_ready (rs := [57]) (by kernel_rfl) (by simp) (AllReadyH.cons rfl (fun K hK => ?_) AllReadyH.nil)
    go_simp
    refine (C15.out _).mono ?_
    rintro e U15 ⟨rfl, hbc⟩
    refine hK.out _ _ (hS.trans (hbc.mono hS.size)) (fun hS => ?_)
    clear hK K hbc
    refine wpAnyH_ready (rs := [59]) (by kernel_rfl) (by simp) (AllReadyH.cons rfl (fun K hK => ?_) AllReadyH.nil)
    go_simp
    refine (Cr16.out _).mono ?_
    rintro e U16 ⟨rfl, hbc⟩
    refine hK.out _ _ (hS.trans (hbc.mono hS.size)) (fun hS => ?_)
    clear hK K hbc
    refine wpAnyH_take (i := 60) (v := ?_) rfl (by kernel_rfl) (by kernel_rfl) (by kernel_rfl) (fun _ _ _ h => h) (Or.inl ⟨by kernel_rfl, ?_⟩) hS ?_
    rotate_left
    · intro V hV
      go_simp
      (try with_reducible rfl)
    simp only [Act.put]
    refine wpAnyH_take (i := 61) (v := ?_) rfl (by kernel_rfl) (by kernel_rfl) (by kernel_rfl) (fun _ _ _ h => h) (Or.inl ⟨by kernel_rfl, ?_⟩) hS ?_
    rotate_left
    · intro V hV
      go_simp
      (try with_reducible rfl)
    simp only [Act.put]
    refine wpAnyH_take (i := 62) (v := ?_) rfl (by kernel_rfl) (by kernel_rfl) (by kernel_rfl) (fun _ _ _ h => h) (Or.inl ⟨by kernel_rfl, ?_⟩) hS ?_
    rotate_left
    · intro V hV
      go_simp
      (try with_reducible rfl)
    simp only [Act.put]
    refine wpAnyH_take (i := 63) (v := ?_) rfl (by kernel_rfl) (by kernel_rfl) (by kernel_rfl) (fun _ _ _ h => h) (Or.inl ⟨by kernel_rfl, ?_⟩) hS ?_
    rotate_left
    · intro V hV
      have k0 := (hV.cell (p := ⟨w.heap.size, 0, none⟩) hlx).trans cx0
      have k1 := (hV.cell (p := ⟨w.heap.size, 1, none⟩) hlx).trans cx1
      have k2 := (hV.cell (p := ⟨w.heap.size, 2, none⟩) hlx).trans cx2
      have k3 := (hV.cell (p := ⟨w.heap.size, 3, none⟩) hlx).trans cx3
      go_simp
      (try with_reducible rfl)
    simp only [Act.put]
    refine wpAnyH_take (i := 64) (v := ?_) rfl (by kernel_rfl) (by kernel_rfl) (by kernel_rfl) (fun _ _ _ h => h) (Or.inl ⟨by kernel_rfl, ?_⟩) hS ?_
    rotate_left
    · intro V hV
      go_simp
      (try with_reducible rfl)
    simp only [Act.put]
    refine wpAnyH_take (i := 66) (v := ?_) rfl (by kernel_rfl) (by kernel_rfl) (by kernel_rfl) (fun _ _ _ h => h) (Or.inl ⟨by kernel_rfl, ?_⟩) hS ?_
    rotate_left
    · intro V hV
      have k0 := (hV.cell (p := ⟨w.heap.size, 0, none⟩) hlx).trans cx0
      have k1 := (hV.cell (p := ⟨w.heap.size, 1, none⟩) hlx).trans cx1
      have k2 := (hV.cell (p := ⟨w.heap.size, 2, none⟩) hlx).trans cx2
      have k3 := (hV.cell (p := ⟨w.heap.size, 3, none⟩) hlx).trans cx3
      go_simp
      (try with_reducible rfl)
    simp only [Act.put]
    refine wpAnyH_ready (rs := [65]) (by kernel_rfl) (by simp) (AllReadyH.cons rfl (fun K hK => ?_) AllReadyH.nil)
    go_simp
    refine (Cr17.out _).mono ?_
    rintro e U17 ⟨rfl, hbc⟩
    refine hK.out _ _ (hS.trans (hbc.mono hS.size)) (fun hS => ?_)
    clear hK K hbc
    refine wpAnyH_take (i := 67) (v := ?_) rfl (by kernel_rfl) (by kernel_rfl) (by kernel_rfl) (fun _ _ _ h => h) (Or.inl ⟨by kernel_rfl, ?_⟩) hS ?_
    rotate_left
    · intro V hV
      go_simp
      (try with_reducible rfl)
    simp only [Act.put]
    refine wpAnyH_take (i := 68) (v := ?_) rfl (by kernel_rfl) (by kernel_rfl) (by kernel_rfl) (fun _ _ _ h => h) (Or.inl ⟨by kernel_rfl, ?_⟩) hS ?_
    rotate_left
    · intro V hV
      go_simp
      (try with_reducible rfl)
    simp only [Act.put]
    refine wpAnyH_take (i := 69) (v := ?_) rfl (by kernel_rfl) (by kernel_rfl) (by kernel_rfl) (fun _ _ _ h => h) (Or.inl ⟨by kernel_rfl, ?_⟩) hS ?_
    rotate_left
    · intro V hV
      go_simp
      (try with_reducible rfl)
    simp only [Act.put]
    refine wpAnyH_take (i := 70) (v := ?_) rfl (by kernel_rfl) (by kernel_rfl) (by kernel_rfl) (fun _ _ _ h => h) (Or.inl ⟨by kernel_rfl, ?_⟩) hS ?_
    rotate_left
    · intro V hV
      have k0 := (hV.cell (p := ⟨w.heap.size, 0, none⟩) hlx).trans cx0
      have k1 := (hV.cell (p := ⟨w.heap.size, 1, none⟩) hlx).trans cx1
      have k2 := (hV.cell (p := ⟨w.heap.size, 2, none⟩) hlx).trans cx2
      have k3 := (hV.cell (p := ⟨w.heap.size, 3, none⟩) hlx).trans cx3
      go_simp
      (try with_reducible rfl)
    simp only [Act.put]
    refine wpAnyH_take (i := 73) (v := ?_) rfl (by kernel_rfl) (by kernel_rfl) (by kernel_rfl) (fun _ _ _ h => h) (Or.inl ⟨by kernel_rfl, ?_⟩) hS ?_
    rotate_left
    · intro V hV
      have k0 := (hV.cell (p := ⟨w.heap.size, 0, none⟩) hlx).trans cx0
      have k1 := (hV.cell (p := ⟨w.heap.size, 1, none⟩) hlx).trans cx1
      have k2 := (hV.cell (p := ⟨w.heap.size, 2, none⟩) hlx).trans cx2
      have k3 := (hV.cell (p := ⟨w.heap.size, 3, none⟩) hlx).trans cx3
      go_simp
      (try with_reducible rfl)
    simp only [Act.put]
    refine wpAnyH_ready (rs := [71]) (by kernel_rfl) (by simp) (AllReadyH.cons rfl (fun K hK => ?_) AllReadyH.nil)
    go_simp
    refine (C18.out _).mono ?_
    rintro e U18 ⟨rfl, hbc⟩
    refine hK.out _ _ (hS.trans (hbc.mono hS.size)) (fun hS => ?_)
    clear hK K hbc
    refine wpAnyH_ready (rs := [72]) (by kernel_rfl) (by simp) (AllReadyH.cons rfl (fun K hK => ?_) AllReadyH.nil)
    go_simp
    refine (Cr19.out _).mono ?_
    rintro e U19 ⟨rfl, hbc⟩
    refine hK.out _ _ (hS.trans (hbc.mono hS.size)) (fun hS => ?_)
    clear hK K hbc
    refine wpAnyH_take (i := 74) (v := ?_) rfl (by kernel_rfl) (by kernel_rfl) (by kernel_rfl) (fun _ _ _ h => h) (Or.inl ⟨by kernel_rfl, ?_⟩) hS ?_
    rotate_left
    · intro V hV
      go_simp
      (try with_reducible rfl)
    simp only [Act.put]
    refine wpAnyH_take (i := 75) (v := ?_) rfl (by kernel_rfl) (by kernel_rfl) (by kernel_rfl) (fun _ _ _ h => h) (Or.inl ⟨by kernel_rfl, ?_⟩) hS ?_
    rotate_left
    · intro V hV
      go_simp
      (try with_reducible rfl)
    simp only [Act.put]
    refine wpAnyH_take (i := 76) (v := ?_) rfl (by kernel_rfl) (by kernel_rfl) (by kernel_rfl) (fun _ _ _ h => h) (Or.inl ⟨by kernel_rfl, ?_⟩) hS ?_
    rotate_left
    · intro V hV
      go_simp
      (try with_reducible rfl)
    simp only [Act.put]
    refine wpAnyH_ready (rs := [77]) (by kernel_rfl) (by simp) (AllReadyH.cons rfl (fun K hK => ?_) AllReadyH.nil)
    go_simp
    refine (C20.out _).mono ?_
    rintro e U20 ⟨rfl, hbc⟩
    refine hK.out _ _ (hS.trans (hbc.mono hS.size)) (fun hS => ?_)
    clear hK K hbc
    refine wpAnyH_take (i := 78) (v := ?_) rfl (by kernel_rfl) (by kernel_rfl) (by kernel_rfl) (fun _ _ _ h => h) (Or.inl ⟨by kernel_rfl, ?_⟩) hS ?_
    rotate_left
    · intro V hV
      go_simp
      (try with_reducible rfl)
    simp only [Act.put]
    refine wpAnyH_ready (rs := [79]) (by kernel_rfl) (by simp) (AllReadyH.cons rfl (fun K hK => ?_) AllReadyH.nil)
    go_simp
    refine hK.out _ _ hS (fun hS => ?_)
    clear hK K
    refine wpAnyH_done (by kernel_rfl) ?_ _
    go_wp2_with fail
    go_ret
    exact ⟨rfl, HBW.out.trans (hS.mono HBW.out.size)⟩

end Go.Proofs.Ytpnijncoldihfaa
