/-
  The text of a number to the base 16.
-/
import Derived.Deep.DeepCutAuto
import Derived.Test.YtpnijncoldihfaaTextsC36
namespace Go.Proofs.Ytpnijncoldihfaa
open Go.RowKit Go.Shelf

theorem eq_c1 (W : World) : (Op.equalIn 10000 24 (.agg #[.int .u64 15, .int .u64 0, .int .u64 0, .int .u64 0]) (.agg #[.int .u64 0, .int .u64 0, .int .u64 0, .int .u64 0])).run Try.prog W = .ok false W := by kernel_rfl

theorem eq_c2 (W : World) : (Op.equalIn 10000 24 (.agg #[.int .u64 0, .int .u64 0, .int .u64 0, .int .u64 0]) (.agg #[.int .u64 0, .int .u64 0, .int .u64 0, .int .u64 0])).run Try.prog W = .ok true W := by kernel_rfl

theorem divide_255 (W : World) : Calls Try.prog 93 #[.agg #[.int .u64 255, .int .u64 0, .int .u64 0, .int .u64 0], .agg #[.int .u64 16, .int .u64 0, .int .u64 0, .int .u64 0]] W fun e w' => e = .returned (.tuple #[.agg #[.int .u64 15, .int .u64 0, .int .u64 0, .int .u64 0], .agg #[.int .u64 15, .int .u64 0, .int .u64 0, .int .u64 0]]) ∧ Below W.heap.size W w' := by
  have h := divide_small 255 16 (by omega) (by omega) W
  have e1 : 255 % M256 / 16 = 15 := by decide
  have e2 : 255 % M256 % 16 = 15 := by decide
  rw [e1, e2] at h
  simp only [wv_small (show 255 < 18446744073709551616 by omega), wv_small (show 16 < 18446744073709551616 by omega), wv_small (show 15 < 18446744073709551616 by omega)] at h
  exact h

theorem divide_15 (W : World) : Calls Try.prog 93 #[.agg #[.int .u64 15, .int .u64 0, .int .u64 0, .int .u64 0], .agg #[.int .u64 16, .int .u64 0, .int .u64 0, .int .u64 0]] W fun e w' => e = .returned (.tuple #[.agg #[.int .u64 0, .int .u64 0, .int .u64 0, .int .u64 0], .agg #[.int .u64 15, .int .u64 0, .int .u64 0, .int .u64 0]]) ∧ Below W.heap.size W w' := by
  have h := divide_small 15 16 (by omega) (by omega) W
  have e1 : 15 % M256 / 16 = 0 := by decide
  have e2 : 15 % M256 % 16 = 15 := by decide
  rw [e1, e2] at h
  simp only [wv_small (show 16 < 18446744073709551616 by omega), wv_small (show 15 < 18446744073709551616 by omega), wv_small (show 0 < 18446744073709551616 by omega)] at h
  exact h

set_option maxHeartbeats 4000000 in
set_option maxRecDepth 100000 in
theorem digits_ff (w : World) : Calls Try.prog 117 #[.agg #[.int .u64 255, .int .u64 0, .int .u64 0, .int .u64 0], .int .u64 16] w fun e w' => e = .returned (.string ⟨#[102, 102]⟩) ∧ Below w.heap.size w w' := by
  have hof : ∀ W, Calls Try.prog 21 #[.int .u64 16] W fun e w' => e = .returned (.agg #[.int .u64 16, .int .u64 0, .int .u64 0, .int .u64 0]) ∧ Below W.heap.size W w' := fun W => by
    have := of_any 16 (by omega) W
    rwa [wv_small (by omega)] at this
  have HOF := hideP hof
  clear hof
  have eq1 := eq_c1
  have eq2 := eq_c2
  have hd15 : (((⟨#[48, 49, 50, 51, 52, 53, 54, 55, 56, 57, 97, 98, 99, 100, 101, 102]⟩ : ByteArray)[15]'(by decide)).toNat : Int) = 102 := by decide
  go_enter Try.func117, Try.ntmps117
  go_wp2_with fail
  refine wp_loop_rounds 2 ?_
  rw [rounds_succ]
  go_wp2_with fail
  obtain ⟨W0, HW0⟩ : ∃ W0, Hid (W0 = (w.alloc (.cells #[.int .u64 255, .int .u64 0, .int .u64 0, .int .u64 0] 24)).alloc (.cells Try.zeroCells111 111)) := ⟨_, rfl⟩
  rw [← HW0.out]
  have HX : Hid (W0.heap[w.heap.size]? = some (.cells #[.int .u64 255, .int .u64 0, .int .u64 0, .int .u64 0] 24 (0, 0))) := by
    show _ = _
    rw [HW0.out, heap_old _ _ (by simp)]
    exact heap_new _ _
  have HT : Hid (W0.heap[w.heap.size + 1]? = some (.cells Try.zeroCells111 111 (0, 0))) := by
    show _ = _
    rw [HW0.out]
    exact heap_new1 _ _ _
  have HB0 : Hid (Below w.heap.size w W0) := by
    show Below _ _ _
    rw [HW0.out]
    exact ((Below.refl _ w).alloc (Nat.le_refl _) _).alloc (by simp) _
  clear HW0
  obtain ⟨q0, q1, q2, q3, hq⟩ : ∃ q0 q1 q2 q3 : Int, q0 = 15 ∧ q1 = 0 ∧ q2 = 0 ∧ q3 = 0 := ⟨_, _, _, _, rfl, rfl, rfl, rfl⟩
  obtain ⟨r0, r1, r2, r3, hr⟩ : ∃ r0 r1 r2 r3 : Int, r0 = 15 ∧ r1 = 0 ∧ r2 = 0 ∧ r3 = 0 := ⟨_, _, _, _, rfl, rfl, rfl, rfl⟩
  have HDV : Hid (∀ W, Calls Try.prog 93 #[.agg #[.int .u64 255, .int .u64 0, .int .u64 0, .int .u64 0], .agg #[.int .u64 16, .int .u64 0, .int .u64 0, .int .u64 0]] W fun e w' => e = .returned (.tuple #[.agg #[.int .u64 q0, .int .u64 q1, .int .u64 q2, .int .u64 q3], .agg #[.int .u64 r0, .int .u64 r1, .int .u64 r2, .int .u64 r3]]) ∧ Below W.heap.size W w') := by
    rw [hq.1, hq.2.1, hq.2.2.1, hq.2.2.2, hr.1, hr.2.1, hr.2.2.1, hr.2.2.2]
    exact fun W => divide_255 W
  have HQ := hideP hq
  have HRR := hideP hr
  clear hq hr
  go_cut [8, 9] (fun p1 p2 wx => ∃ B7 B8 : Nat, p1 = .pointer (some ⟨B7, 0, none⟩) ∧ p2 = .pointer (some ⟨B8, 0, none⟩) ∧ wx.heap[B7]? = some (.cells #[.int .u64 q0, .int .u64 q1, .int .u64 q2, .int .u64 q3] 24 (0, 0)) ∧ wx.heap[B8]? = some (.cells #[.int .u64 r0, .int .u64 r1, .int .u64 r2, .int .u64 r3] 24 (0, 0)) ∧ W0.heap.size ≤ B7 ∧ W0.heap.size ≤ B8 ∧ Below W0.heap.size W0 wx)
  case first =>
    obtain ⟨cx0, cx1, cx2, cx3⟩ := cells4 HX.out
    have hlx := (Array.getElem?_eq_some_iff.1 HX.out).1
    refine wp_region_heldS (S := fun V => Below W0.heap.size W0 V) (by kernel_rfl) (Below.refl _ _).drew (fun hS => ?_)
    refine wpAnyH_take (i := 0) (v := ?_) rfl (by kernel_rfl) (by kernel_rfl) (by kernel_rfl) (fun _ _ _ h => h) (Or.inl ⟨by rfl, ?_⟩) hS ?_
    rotate_left
    · intro V hV
      have k0 := (hV.cell (p := ⟨w.heap.size, 0, none⟩) hlx).trans cx0
      have k1 := (hV.cell (p := ⟨w.heap.size, 1, none⟩) hlx).trans cx1
      have k2 := (hV.cell (p := ⟨w.heap.size, 2, none⟩) hlx).trans cx2
      have k3 := (hV.cell (p := ⟨w.heap.size, 3, none⟩) hlx).trans cx3
      go_simp
      (try with_reducible rfl)
    simp only [Act.put, List.setIfInBounds_toArray]
    refine wpAnyH_take (i := 1) (v := ?_) rfl (by kernel_rfl) (by kernel_rfl) (by kernel_rfl) (fun _ _ _ h => h) (Or.inl ⟨by rfl, ?_⟩) hS ?_
    rotate_left
    · intro V hV
      go_simp
      (try with_reducible rfl)
    simp only [Act.put]
    refine wpAnyH_ready (rs := [2, 7, 8]) (by kernel_rfl) (by simp) ?_
    refine AllReadyH.cons rfl (fun K hK => ?_) (AllReadyH.cons rfl (fun K hK => ?_) (AllReadyH.cons rfl (fun K hK => ?_) AllReadyH.nil))
    · go_simp
      refine (HOF.out _).mono ?_
      rintro e U1 ⟨rfl, hbc⟩
      refine hK.out _ _ (hS.trans (hbc.mono hS.size)) (fun hS => ?_)
      clear hK K hbc
      refine wpAnyH_ready (rs := [3, 7, 8]) (by kernel_rfl) (by simp) ?_
      refine AllReadyH.cons rfl (fun K hK => ?_) (AllReadyH.cons rfl (fun K hK => ?_) (AllReadyH.cons rfl (fun K hK => ?_) AllReadyH.nil))
      · go_simp
        refine (HDV.out _).mono ?_
        rintro e U2 ⟨rfl, hbc⟩
        refine hK.out _ _ (hS.trans (hbc.mono hS.size)) (fun hS => ?_)
        clear hK K hbc
        refine wpAnyH_take (i := 4) (v := ?_) rfl (by kernel_rfl) (by kernel_rfl) (by kernel_rfl) (fun _ _ _ h => h) (Or.inl ⟨by rfl, ?_⟩) hS ?_
        rotate_left
        · intro V hV
          go_simp
          (try with_reducible rfl)
        simp only [Act.put]
        refine wpAnyH_take (i := 5) (v := ?_) rfl (by kernel_rfl) (by kernel_rfl) (by kernel_rfl) (fun _ _ _ h => h) (Or.inl ⟨by rfl, ?_⟩) hS ?_
        rotate_left
        · intro V hV
          go_simp
          (try with_reducible rfl)
        simp only [Act.put]
        refine wpAnyH_take (i := 6) (v := ?_) rfl (by kernel_rfl) (by kernel_rfl) (by kernel_rfl) (fun _ _ _ h => h) (Or.inl ⟨by rfl, ?_⟩) hS ?_
        rotate_left
        · intro V hV
          go_simp
          (try with_reducible rfl)
        simp only [Act.put]
        refine wpAnyH_ready (rs := [7, 8]) (by kernel_rfl) (by simp) ?_
        refine AllReadyH.cons rfl (fun K hK => ?_) (AllReadyH.cons rfl (fun K hK => ?_) AllReadyH.nil)
        · go_simp
          obtain ⟨B7, hBe⟩ : ∃ B7, B7 = U2.heap.size := ⟨_, rfl⟩
          have hZ7 : (U2.alloc (.cells #[.int .u64 0, .int .u64 0, .int .u64 0, .int .u64 0] 24)).heap[B7]? = some (.cells #[.int .u64 0, .int .u64 0, .int .u64 0, .int .u64 0] 24 (0, 0)) := by rw [hBe]; exact heap_new _ _
          have hL7 : W0.heap.size ≤ B7 := by rw [hBe]; exact hS.size
          have hSA : Below W0.heap.size W0 (U2.alloc (.cells #[.int .u64 0, .int .u64 0, .int .u64 0, .int .u64 0] 24)) := hS.alloc hS.size _
          rw [← hBe]
          have hLT7 : B7 < (U2.alloc (.cells #[.int .u64 0, .int .u64 0, .int .u64 0, .int .u64 0] 24)).heap.size := (Array.getElem?_eq_some_iff.1 hZ7).1
          generalize (U2.alloc (.cells #[.int .u64 0, .int .u64 0, .int .u64 0, .int .u64 0] 24)) = U3 at hZ7  hSA hLT7  ⊢
          refine hK.out _ _ hSA (fun hS => ?_)
          clear hK K hSA hBe
          refine wpAnyH_ready (rs := [8]) (by kernel_rfl) (by simp) ?_
          refine AllReadyH.cons rfl (fun K hK => ?_) AllReadyH.nil
          · go_simp
            obtain ⟨B8, hBe⟩ : ∃ B8, B8 = U3.heap.size := ⟨_, rfl⟩
            have hZ8 : (U3.alloc (.cells #[.int .u64 0, .int .u64 0, .int .u64 0, .int .u64 0] 24)).heap[B8]? = some (.cells #[.int .u64 0, .int .u64 0, .int .u64 0, .int .u64 0] 24 (0, 0)) := by rw [hBe]; exact heap_new _ _
            have hL8 : W0.heap.size ≤ B8 := by rw [hBe]; exact hS.size
            have hSA : Below W0.heap.size W0 (U3.alloc (.cells #[.int .u64 0, .int .u64 0, .int .u64 0, .int .u64 0] 24)) := hS.alloc hS.size _
            have hY7 : (U3.alloc (.cells #[.int .u64 0, .int .u64 0, .int .u64 0, .int .u64 0] 24)).heap[B7]? = _ := (heap_old _ _ (Array.getElem?_eq_some_iff.1 hZ7).1).trans hZ7
            clear hZ7
            have hZ7 := hY7
            clear hY7
            have hN87 : B7 ≠ B8 := by rw [hBe]; exact Nat.ne_of_lt (hLT7)
            rw [← hBe]
            have hLT8 : B8 < (U3.alloc (.cells #[.int .u64 0, .int .u64 0, .int .u64 0, .int .u64 0] 24)).heap.size := (Array.getElem?_eq_some_iff.1 hZ8).1
            have hQ7 : B7 < (U3.alloc (.cells #[.int .u64 0, .int .u64 0, .int .u64 0, .int .u64 0] 24)).heap.size := (Array.getElem?_eq_some_iff.1 hZ7).1
            clear hLT7
            have hLT7 := hQ7
            clear hQ7
            generalize (U3.alloc (.cells #[.int .u64 0, .int .u64 0, .int .u64 0, .int .u64 0] 24)) = U4 at hZ8 hZ7 hSA hLT8 hLT7 ⊢
            refine hK.out _ _ hSA (fun hS => ?_)
            clear hK K hSA hBe
            obtain ⟨a0, a1, a2, a3⟩ := cells4 hZ7
            have fa : ∀ o, U4.frozen? ⟨B7, o, none⟩ = false := fun o => blk_free hZ7
            refine wpAnyH_ready (rs := [9]) (by kernel_rfl) (by simp) (AllReadyH.cons rfl (fun K hK => ?_) AllReadyH.nil)
            go_simp
            have g7 := stored4 (z0 := .int .u64 q0) (z1 := .int .u64 q1) (z2 := .int .u64 q2) (z3 := .int .u64 q3) hZ7
            have hSB := below_stored4 (b := B7) (z0 := .int .u64 q0) (z1 := .int .u64 q1) (z2 := .int .u64 q2) (z3 := .int .u64 q3) hS hL7
            have o8 := (other4 (b := B7) (c := B8) (z0 := .int .u64 q0) (z1 := .int .u64 q1) (z2 := .int .u64 q2) (z3 := .int .u64 q3) (by first | exact hN87 | exact (hN87).symm | exact hN78 | exact (hN78).symm)).trans hZ8
            clear hZ8
            have hZ8 := o8
            clear o8
            generalize ((((U4.setCell ⟨B7, 0, none⟩ (.int .u64 q0)).setCell ⟨B7, 1, none⟩ (.int .u64 q1)).setCell ⟨B7, 2, none⟩ (.int .u64 q2)).setCell ⟨B7, 3, none⟩ (.int .u64 q3)) = U4x at g7 hSB hZ8 ⊢
            refine hK.out _ _ hSB (fun hS => ?_)
            clear hK K hSB a0 a1 a2 a3 fa hZ7
            obtain ⟨a0, a1, a2, a3⟩ := cells4 hZ8
            have fa : ∀ o, U4x.frozen? ⟨B8, o, none⟩ = false := fun o => blk_free hZ8
            refine wpAnyH_ready (rs := [10]) (by kernel_rfl) (by simp) (AllReadyH.cons rfl (fun K hK => ?_) AllReadyH.nil)
            go_simp
            have g8 := stored4 (z0 := .int .u64 r0) (z1 := .int .u64 r1) (z2 := .int .u64 r2) (z3 := .int .u64 r3) hZ8
            have hSB := below_stored4 (b := B8) (z0 := .int .u64 r0) (z1 := .int .u64 r1) (z2 := .int .u64 r2) (z3 := .int .u64 r3) hS hL8
            have o7 := (other4 (b := B8) (c := B7) (z0 := .int .u64 r0) (z1 := .int .u64 r1) (z2 := .int .u64 r2) (z3 := .int .u64 r3) (by first | exact hN78 | exact (hN78).symm | exact hN87 | exact (hN87).symm)).trans g7
            clear g7
            have g7 := o7
            clear o7
            generalize ((((U4x.setCell ⟨B8, 0, none⟩ (.int .u64 r0)).setCell ⟨B8, 1, none⟩ (.int .u64 r1)).setCell ⟨B8, 2, none⟩ (.int .u64 r2)).setCell ⟨B8, 3, none⟩ (.int .u64 r3)) = U4xx at g8 hSB g7 ⊢
            refine hK.out _ _ hSB (fun hS => wpAnyH_done (by kernel_rfl) ?_ _)
            clear hK K
            go_wp2_with fail
            go_meet
            exact ⟨B7, B8, rfl, rfl, g7, g8, hL7, hL8, hSB⟩
        · go_simp
          obtain ⟨B8, hBe⟩ : ∃ B8, B8 = U2.heap.size := ⟨_, rfl⟩
          have hZ8 : (U2.alloc (.cells #[.int .u64 0, .int .u64 0, .int .u64 0, .int .u64 0] 24)).heap[B8]? = some (.cells #[.int .u64 0, .int .u64 0, .int .u64 0, .int .u64 0] 24 (0, 0)) := by rw [hBe]; exact heap_new _ _
          have hL8 : W0.heap.size ≤ B8 := by rw [hBe]; exact hS.size
          have hSA : Below W0.heap.size W0 (U2.alloc (.cells #[.int .u64 0, .int .u64 0, .int .u64 0, .int .u64 0] 24)) := hS.alloc hS.size _
          rw [← hBe]
          have hLT8 : B8 < (U2.alloc (.cells #[.int .u64 0, .int .u64 0, .int .u64 0, .int .u64 0] 24)).heap.size := (Array.getElem?_eq_some_iff.1 hZ8).1
          generalize (U2.alloc (.cells #[.int .u64 0, .int .u64 0, .int .u64 0, .int .u64 0] 24)) = U5 at hZ8  hSA hLT8  ⊢
          refine hK.out _ _ hSA (fun hS => ?_)
          clear hK K hSA hBe
          refine wpAnyH_ready (rs := [7]) (by kernel_rfl) (by simp) ?_
          refine AllReadyH.cons rfl (fun K hK => ?_) AllReadyH.nil
          · go_simp
            obtain ⟨B7, hBe⟩ : ∃ B7, B7 = U5.heap.size := ⟨_, rfl⟩
            have hZ7 : (U5.alloc (.cells #[.int .u64 0, .int .u64 0, .int .u64 0, .int .u64 0] 24)).heap[B7]? = some (.cells #[.int .u64 0, .int .u64 0, .int .u64 0, .int .u64 0] 24 (0, 0)) := by rw [hBe]; exact heap_new _ _
            have hL7 : W0.heap.size ≤ B7 := by rw [hBe]; exact hS.size
            have hSA : Below W0.heap.size W0 (U5.alloc (.cells #[.int .u64 0, .int .u64 0, .int .u64 0, .int .u64 0] 24)) := hS.alloc hS.size _
            have hY8 : (U5.alloc (.cells #[.int .u64 0, .int .u64 0, .int .u64 0, .int .u64 0] 24)).heap[B8]? = _ := (heap_old _ _ (Array.getElem?_eq_some_iff.1 hZ8).1).trans hZ8
            clear hZ8
            have hZ8 := hY8
            clear hY8
            have hN78 : B8 ≠ B7 := by rw [hBe]; exact Nat.ne_of_lt (hLT8)
            rw [← hBe]
            have hLT7 : B7 < (U5.alloc (.cells #[.int .u64 0, .int .u64 0, .int .u64 0, .int .u64 0] 24)).heap.size := (Array.getElem?_eq_some_iff.1 hZ7).1
            have hQ8 : B8 < (U5.alloc (.cells #[.int .u64 0, .int .u64 0, .int .u64 0, .int .u64 0] 24)).heap.size := (Array.getElem?_eq_some_iff.1 hZ8).1
            clear hLT8
            have hLT8 := hQ8
            clear hQ8
            generalize (U5.alloc (.cells #[.int .u64 0, .int .u64 0, .int .u64 0, .int .u64 0] 24)) = U6 at hZ7 hZ8 hSA hLT7 hLT8 ⊢
            refine hK.out _ _ hSA (fun hS => ?_)
            clear hK K hSA hBe
            obtain ⟨a0, a1, a2, a3⟩ := cells4 hZ7
            have fa : ∀ o, U6.frozen? ⟨B7, o, none⟩ = false := fun o => blk_free hZ7
            refine wpAnyH_ready (rs := [9]) (by kernel_rfl) (by simp) (AllReadyH.cons rfl (fun K hK => ?_) AllReadyH.nil)
            go_simp
            have g7 := stored4 (z0 := .int .u64 q0) (z1 := .int .u64 q1) (z2 := .int .u64 q2) (z3 := .int .u64 q3) hZ7
            have hSB := below_stored4 (b := B7) (z0 := .int .u64 q0) (z1 := .int .u64 q1) (z2 := .int .u64 q2) (z3 := .int .u64 q3) hS hL7
            have o8 := (other4 (b := B7) (c := B8) (z0 := .int .u64 q0) (z1 := .int .u64 q1) (z2 := .int .u64 q2) (z3 := .int .u64 q3) (by first | exact hN87 | exact (hN87).symm | exact hN78 | exact (hN78).symm)).trans hZ8
            clear hZ8
            have hZ8 := o8
            clear o8
            generalize ((((U6.setCell ⟨B7, 0, none⟩ (.int .u64 q0)).setCell ⟨B7, 1, none⟩ (.int .u64 q1)).setCell ⟨B7, 2, none⟩ (.int .u64 q2)).setCell ⟨B7, 3, none⟩ (.int .u64 q3)) = U6x at g7 hSB hZ8 ⊢
            refine hK.out _ _ hSB (fun hS => ?_)
            clear hK K hSB a0 a1 a2 a3 fa hZ7
            obtain ⟨a0, a1, a2, a3⟩ := cells4 hZ8
            have fa : ∀ o, U6x.frozen? ⟨B8, o, none⟩ = false := fun o => blk_free hZ8
            refine wpAnyH_ready (rs := [10]) (by kernel_rfl) (by simp) (AllReadyH.cons rfl (fun K hK => ?_) AllReadyH.nil)
            go_simp
            have g8 := stored4 (z0 := .int .u64 r0) (z1 := .int .u64 r1) (z2 := .int .u64 r2) (z3 := .int .u64 r3) hZ8
            have hSB := below_stored4 (b := B8) (z0 := .int .u64 r0) (z1 := .int .u64 r1) (z2 := .int .u64 r2) (z3 := .int .u64 r3) hS hL8
            have o7 := (other4 (b := B8) (c := B7) (z0 := .int .u64 r0) (z1 := .int .u64 r1) (z2 := .int .u64 r2) (z3 := .int .u64 r3) (by first | exact hN78 | exact (hN78).symm | exact hN87 | exact (hN87).symm)).trans g7
            clear g7
            have g7 := o7
            clear o7
            generalize ((((U6x.setCell ⟨B8, 0, none⟩ (.int .u64 r0)).setCell ⟨B8, 1, none⟩ (.int .u64 r1)).setCell ⟨B8, 2, none⟩ (.int .u64 r2)).setCell ⟨B8, 3, none⟩ (.int .u64 r3)) = U6xx at g8 hSB g7 ⊢
            refine hK.out _ _ hSB (fun hS => wpAnyH_done (by kernel_rfl) ?_ _)
            clear hK K
            go_wp2_with fail
            go_meet
            exact ⟨B7, B8, rfl, rfl, g7, g8, hL7, hL8, hSB⟩
      · go_simp
        obtain ⟨B7, hBe⟩ : ∃ B7, B7 = U1.heap.size := ⟨_, rfl⟩
        have hZ7 : (U1.alloc (.cells #[.int .u64 0, .int .u64 0, .int .u64 0, .int .u64 0] 24)).heap[B7]? = some (.cells #[.int .u64 0, .int .u64 0, .int .u64 0, .int .u64 0] 24 (0, 0)) := by rw [hBe]; exact heap_new _ _
        have hL7 : W0.heap.size ≤ B7 := by rw [hBe]; exact hS.size
        have hSA : Below W0.heap.size W0 (U1.alloc (.cells #[.int .u64 0, .int .u64 0, .int .u64 0, .int .u64 0] 24)) := hS.alloc hS.size _
        rw [← hBe]
        have hLT7 : B7 < (U1.alloc (.cells #[.int .u64 0, .int .u64 0, .int .u64 0, .int .u64 0] 24)).heap.size := (Array.getElem?_eq_some_iff.1 hZ7).1
        generalize (U1.alloc (.cells #[.int .u64 0, .int .u64 0, .int .u64 0, .int .u64 0] 24)) = U7 at hZ7  hSA hLT7  ⊢
        refine hK.out _ _ hSA (fun hS => ?_)
        clear hK K hSA hBe
        refine wpAnyH_ready (rs := [3, 8]) (by kernel_rfl) (by simp) ?_
        refine AllReadyH.cons rfl (fun K hK => ?_) (AllReadyH.cons rfl (fun K hK => ?_) AllReadyH.nil)
        · go_simp
          refine (HDV.out _).mono ?_
          rintro e U8 ⟨rfl, hbc⟩
          refine hK.out _ _ (hS.trans (hbc.mono hS.size)) (fun hS => ?_)
          replace hZ7 := (hbc.block B7 (Array.getElem?_eq_some_iff.1 hZ7).1).trans hZ7
          replace hLT7 := (Array.getElem?_eq_some_iff.1 hZ7).1
          clear hK K hbc
          refine wpAnyH_take (i := 4) (v := ?_) rfl (by kernel_rfl) (by kernel_rfl) (by kernel_rfl) (fun _ _ _ h => h) (Or.inl ⟨by rfl, ?_⟩) hS ?_
          rotate_left
          · intro V hV
            go_simp
            (try with_reducible rfl)
          simp only [Act.put]
          refine wpAnyH_take (i := 5) (v := ?_) rfl (by kernel_rfl) (by kernel_rfl) (by kernel_rfl) (fun _ _ _ h => h) (Or.inl ⟨by rfl, ?_⟩) hS ?_
          rotate_left
          · intro V hV
            go_simp
            (try with_reducible rfl)
          simp only [Act.put]
          refine wpAnyH_take (i := 6) (v := ?_) rfl (by kernel_rfl) (by kernel_rfl) (by kernel_rfl) (fun _ _ _ h => h) (Or.inl ⟨by rfl, ?_⟩) hS ?_
          rotate_left
          · intro V hV
            go_simp
            (try with_reducible rfl)
          simp only [Act.put]
          refine wpAnyH_ready (rs := [8]) (by kernel_rfl) (by simp) ?_
          refine AllReadyH.cons rfl (fun K hK => ?_) AllReadyH.nil
          · go_simp
            obtain ⟨B8, hBe⟩ : ∃ B8, B8 = U8.heap.size := ⟨_, rfl⟩
            have hZ8 : (U8.alloc (.cells #[.int .u64 0, .int .u64 0, .int .u64 0, .int .u64 0] 24)).heap[B8]? = some (.cells #[.int .u64 0, .int .u64 0, .int .u64 0, .int .u64 0] 24 (0, 0)) := by rw [hBe]; exact heap_new _ _
            have hL8 : W0.heap.size ≤ B8 := by rw [hBe]; exact hS.size
            have hSA : Below W0.heap.size W0 (U8.alloc (.cells #[.int .u64 0, .int .u64 0, .int .u64 0, .int .u64 0] 24)) := hS.alloc hS.size _
            have hY7 : (U8.alloc (.cells #[.int .u64 0, .int .u64 0, .int .u64 0, .int .u64 0] 24)).heap[B7]? = _ := (heap_old _ _ (Array.getElem?_eq_some_iff.1 hZ7).1).trans hZ7
            clear hZ7
            have hZ7 := hY7
            clear hY7
            have hN87 : B7 ≠ B8 := by rw [hBe]; exact Nat.ne_of_lt (hLT7)
            rw [← hBe]
            have hLT8 : B8 < (U8.alloc (.cells #[.int .u64 0, .int .u64 0, .int .u64 0, .int .u64 0] 24)).heap.size := (Array.getElem?_eq_some_iff.1 hZ8).1
            have hQ7 : B7 < (U8.alloc (.cells #[.int .u64 0, .int .u64 0, .int .u64 0, .int .u64 0] 24)).heap.size := (Array.getElem?_eq_some_iff.1 hZ7).1
            clear hLT7
            have hLT7 := hQ7
            clear hQ7
            generalize (U8.alloc (.cells #[.int .u64 0, .int .u64 0, .int .u64 0, .int .u64 0] 24)) = U9 at hZ8 hZ7 hSA hLT8 hLT7 ⊢
            refine hK.out _ _ hSA (fun hS => ?_)
            clear hK K hSA hBe
            obtain ⟨a0, a1, a2, a3⟩ := cells4 hZ7
            have fa : ∀ o, U9.frozen? ⟨B7, o, none⟩ = false := fun o => blk_free hZ7
            refine wpAnyH_ready (rs := [9]) (by kernel_rfl) (by simp) (AllReadyH.cons rfl (fun K hK => ?_) AllReadyH.nil)
            go_simp
            have g7 := stored4 (z0 := .int .u64 q0) (z1 := .int .u64 q1) (z2 := .int .u64 q2) (z3 := .int .u64 q3) hZ7
            have hSB := below_stored4 (b := B7) (z0 := .int .u64 q0) (z1 := .int .u64 q1) (z2 := .int .u64 q2) (z3 := .int .u64 q3) hS hL7
            have o8 := (other4 (b := B7) (c := B8) (z0 := .int .u64 q0) (z1 := .int .u64 q1) (z2 := .int .u64 q2) (z3 := .int .u64 q3) (by first | exact hN87 | exact (hN87).symm | exact hN78 | exact (hN78).symm)).trans hZ8
            clear hZ8
            have hZ8 := o8
            clear o8
            generalize ((((U9.setCell ⟨B7, 0, none⟩ (.int .u64 q0)).setCell ⟨B7, 1, none⟩ (.int .u64 q1)).setCell ⟨B7, 2, none⟩ (.int .u64 q2)).setCell ⟨B7, 3, none⟩ (.int .u64 q3)) = U9x at g7 hSB hZ8 ⊢
            refine hK.out _ _ hSB (fun hS => ?_)
            clear hK K hSB a0 a1 a2 a3 fa hZ7
            obtain ⟨a0, a1, a2, a3⟩ := cells4 hZ8
            have fa : ∀ o, U9x.frozen? ⟨B8, o, none⟩ = false := fun o => blk_free hZ8
            refine wpAnyH_ready (rs := [10]) (by kernel_rfl) (by simp) (AllReadyH.cons rfl (fun K hK => ?_) AllReadyH.nil)
            go_simp
            have g8 := stored4 (z0 := .int .u64 r0) (z1 := .int .u64 r1) (z2 := .int .u64 r2) (z3 := .int .u64 r3) hZ8
            have hSB := below_stored4 (b := B8) (z0 := .int .u64 r0) (z1 := .int .u64 r1) (z2 := .int .u64 r2) (z3 := .int .u64 r3) hS hL8
            have o7 := (other4 (b := B8) (c := B7) (z0 := .int .u64 r0) (z1 := .int .u64 r1) (z2 := .int .u64 r2) (z3 := .int .u64 r3) (by first | exact hN78 | exact (hN78).symm | exact hN87 | exact (hN87).symm)).trans g7
            clear g7
            have g7 := o7
            clear o7
            generalize ((((U9x.setCell ⟨B8, 0, none⟩ (.int .u64 r0)).setCell ⟨B8, 1, none⟩ (.int .u64 r1)).setCell ⟨B8, 2, none⟩ (.int .u64 r2)).setCell ⟨B8, 3, none⟩ (.int .u64 r3)) = U9xx at g8 hSB g7 ⊢
            refine hK.out _ _ hSB (fun hS => wpAnyH_done (by kernel_rfl) ?_ _)
            clear hK K
            go_wp2_with fail
            go_meet
            exact ⟨B7, B8, rfl, rfl, g7, g8, hL7, hL8, hSB⟩
        · go_simp
          obtain ⟨B8, hBe⟩ : ∃ B8, B8 = U7.heap.size := ⟨_, rfl⟩
          have hZ8 : (U7.alloc (.cells #[.int .u64 0, .int .u64 0, .int .u64 0, .int .u64 0] 24)).heap[B8]? = some (.cells #[.int .u64 0, .int .u64 0, .int .u64 0, .int .u64 0] 24 (0, 0)) := by rw [hBe]; exact heap_new _ _
          have hL8 : W0.heap.size ≤ B8 := by rw [hBe]; exact hS.size
          have hSA : Below W0.heap.size W0 (U7.alloc (.cells #[.int .u64 0, .int .u64 0, .int .u64 0, .int .u64 0] 24)) := hS.alloc hS.size _
          have hY7 : (U7.alloc (.cells #[.int .u64 0, .int .u64 0, .int .u64 0, .int .u64 0] 24)).heap[B7]? = _ := (heap_old _ _ (Array.getElem?_eq_some_iff.1 hZ7).1).trans hZ7
          clear hZ7
          have hZ7 := hY7
          clear hY7
          have hN87 : B7 ≠ B8 := by rw [hBe]; exact Nat.ne_of_lt (hLT7)
          rw [← hBe]
          have hLT8 : B8 < (U7.alloc (.cells #[.int .u64 0, .int .u64 0, .int .u64 0, .int .u64 0] 24)).heap.size := (Array.getElem?_eq_some_iff.1 hZ8).1
          have hQ7 : B7 < (U7.alloc (.cells #[.int .u64 0, .int .u64 0, .int .u64 0, .int .u64 0] 24)).heap.size := (Array.getElem?_eq_some_iff.1 hZ7).1
          clear hLT7
          have hLT7 := hQ7
          clear hQ7
          generalize (U7.alloc (.cells #[.int .u64 0, .int .u64 0, .int .u64 0, .int .u64 0] 24)) = U10 at hZ8 hZ7 hSA hLT8 hLT7 ⊢
          refine hK.out _ _ hSA (fun hS => ?_)
          clear hK K hSA hBe
          refine wpAnyH_ready (rs := [3]) (by kernel_rfl) (by simp) ?_
          refine AllReadyH.cons rfl (fun K hK => ?_) AllReadyH.nil
          · go_simp
            refine (HDV.out _).mono ?_
            rintro e U11 ⟨rfl, hbc⟩
            refine hK.out _ _ (hS.trans (hbc.mono hS.size)) (fun hS => ?_)
            replace hZ7 := (hbc.block B7 (Array.getElem?_eq_some_iff.1 hZ7).1).trans hZ7
            replace hLT7 := (Array.getElem?_eq_some_iff.1 hZ7).1
            replace hZ8 := (hbc.block B8 (Array.getElem?_eq_some_iff.1 hZ8).1).trans hZ8
            replace hLT8 := (Array.getElem?_eq_some_iff.1 hZ8).1
            clear hK K hbc
            refine wpAnyH_take (i := 4) (v := ?_) rfl (by kernel_rfl) (by kernel_rfl) (by kernel_rfl) (fun _ _ _ h => h) (Or.inl ⟨by rfl, ?_⟩) hS ?_
            rotate_left
            · intro V hV
              go_simp
              (try with_reducible rfl)
            simp only [Act.put]
            refine wpAnyH_take (i := 5) (v := ?_) rfl (by kernel_rfl) (by kernel_rfl) (by kernel_rfl) (fun _ _ _ h => h) (Or.inl ⟨by rfl, ?_⟩) hS ?_
            rotate_left
            · intro V hV
              go_simp
              (try with_reducible rfl)
            simp only [Act.put]
            refine wpAnyH_take (i := 6) (v := ?_) rfl (by kernel_rfl) (by kernel_rfl) (by kernel_rfl) (fun _ _ _ h => h) (Or.inl ⟨by rfl, ?_⟩) hS ?_
            rotate_left
            · intro V hV
              go_simp
              (try with_reducible rfl)
            simp only [Act.put]
            obtain ⟨a0, a1, a2, a3⟩ := cells4 hZ7
            have fa : ∀ o, U11.frozen? ⟨B7, o, none⟩ = false := fun o => blk_free hZ7
            refine wpAnyH_ready (rs := [9]) (by kernel_rfl) (by simp) (AllReadyH.cons rfl (fun K hK => ?_) AllReadyH.nil)
            go_simp
            have g7 := stored4 (z0 := .int .u64 q0) (z1 := .int .u64 q1) (z2 := .int .u64 q2) (z3 := .int .u64 q3) hZ7
            have hSB := below_stored4 (b := B7) (z0 := .int .u64 q0) (z1 := .int .u64 q1) (z2 := .int .u64 q2) (z3 := .int .u64 q3) hS hL7
            have o8 := (other4 (b := B7) (c := B8) (z0 := .int .u64 q0) (z1 := .int .u64 q1) (z2 := .int .u64 q2) (z3 := .int .u64 q3) (by first | exact hN87 | exact (hN87).symm | exact hN78 | exact (hN78).symm)).trans hZ8
            clear hZ8
            have hZ8 := o8
            clear o8
            generalize ((((U11.setCell ⟨B7, 0, none⟩ (.int .u64 q0)).setCell ⟨B7, 1, none⟩ (.int .u64 q1)).setCell ⟨B7, 2, none⟩ (.int .u64 q2)).setCell ⟨B7, 3, none⟩ (.int .u64 q3)) = U11x at g7 hSB hZ8 ⊢
            refine hK.out _ _ hSB (fun hS => ?_)
            clear hK K hSB a0 a1 a2 a3 fa hZ7
            obtain ⟨a0, a1, a2, a3⟩ := cells4 hZ8
            have fa : ∀ o, U11x.frozen? ⟨B8, o, none⟩ = false := fun o => blk_free hZ8
            refine wpAnyH_ready (rs := [10]) (by kernel_rfl) (by simp) (AllReadyH.cons rfl (fun K hK => ?_) AllReadyH.nil)
            go_simp
            have g8 := stored4 (z0 := .int .u64 r0) (z1 := .int .u64 r1) (z2 := .int .u64 r2) (z3 := .int .u64 r3) hZ8
            have hSB := below_stored4 (b := B8) (z0 := .int .u64 r0) (z1 := .int .u64 r1) (z2 := .int .u64 r2) (z3 := .int .u64 r3) hS hL8
            have o7 := (other4 (b := B8) (c := B7) (z0 := .int .u64 r0) (z1 := .int .u64 r1) (z2 := .int .u64 r2) (z3 := .int .u64 r3) (by first | exact hN78 | exact (hN78).symm | exact hN87 | exact (hN87).symm)).trans g7
            clear g7
            have g7 := o7
            clear o7
            generalize ((((U11x.setCell ⟨B8, 0, none⟩ (.int .u64 r0)).setCell ⟨B8, 1, none⟩ (.int .u64 r1)).setCell ⟨B8, 2, none⟩ (.int .u64 r2)).setCell ⟨B8, 3, none⟩ (.int .u64 r3)) = U11xx at g8 hSB g7 ⊢
            refine hK.out _ _ hSB (fun hS => wpAnyH_done (by kernel_rfl) ?_ _)
            clear hK K
            go_wp2_with fail
            go_meet
            exact ⟨B7, B8, rfl, rfl, g7, g8, hL7, hL8, hSB⟩
      · go_simp
        obtain ⟨B8, hBe⟩ : ∃ B8, B8 = U1.heap.size := ⟨_, rfl⟩
        have hZ8 : (U1.alloc (.cells #[.int .u64 0, .int .u64 0, .int .u64 0, .int .u64 0] 24)).heap[B8]? = some (.cells #[.int .u64 0, .int .u64 0, .int .u64 0, .int .u64 0] 24 (0, 0)) := by rw [hBe]; exact heap_new _ _
        have hL8 : W0.heap.size ≤ B8 := by rw [hBe]; exact hS.size
        have hSA : Below W0.heap.size W0 (U1.alloc (.cells #[.int .u64 0, .int .u64 0, .int .u64 0, .int .u64 0] 24)) := hS.alloc hS.size _
        rw [← hBe]
        have hLT8 : B8 < (U1.alloc (.cells #[.int .u64 0, .int .u64 0, .int .u64 0, .int .u64 0] 24)).heap.size := (Array.getElem?_eq_some_iff.1 hZ8).1
        generalize (U1.alloc (.cells #[.int .u64 0, .int .u64 0, .int .u64 0, .int .u64 0] 24)) = U12 at hZ8  hSA hLT8  ⊢
        refine hK.out _ _ hSA (fun hS => ?_)
        clear hK K hSA hBe
        refine wpAnyH_ready (rs := [3, 7]) (by kernel_rfl) (by simp) ?_
        refine AllReadyH.cons rfl (fun K hK => ?_) (AllReadyH.cons rfl (fun K hK => ?_) AllReadyH.nil)
        · go_simp
          refine (HDV.out _).mono ?_
          rintro e U13 ⟨rfl, hbc⟩
          refine hK.out _ _ (hS.trans (hbc.mono hS.size)) (fun hS => ?_)
          replace hZ8 := (hbc.block B8 (Array.getElem?_eq_some_iff.1 hZ8).1).trans hZ8
          replace hLT8 := (Array.getElem?_eq_some_iff.1 hZ8).1
          clear hK K hbc
          refine wpAnyH_take (i := 4) (v := ?_) rfl (by kernel_rfl) (by kernel_rfl) (by kernel_rfl) (fun _ _ _ h => h) (Or.inl ⟨by rfl, ?_⟩) hS ?_
          rotate_left
          · intro V hV
            go_simp
            (try with_reducible rfl)
          simp only [Act.put]
          refine wpAnyH_take (i := 5) (v := ?_) rfl (by kernel_rfl) (by kernel_rfl) (by kernel_rfl) (fun _ _ _ h => h) (Or.inl ⟨by rfl, ?_⟩) hS ?_
          rotate_left
          · intro V hV
            go_simp
            (try with_reducible rfl)
          simp only [Act.put]
          refine wpAnyH_take (i := 6) (v := ?_) rfl (by kernel_rfl) (by kernel_rfl) (by kernel_rfl) (fun _ _ _ h => h) (Or.inl ⟨by rfl, ?_⟩) hS ?_
          rotate_left
          · intro V hV
            go_simp
            (try with_reducible rfl)
          simp only [Act.put]
          refine wpAnyH_ready (rs := [7]) (by kernel_rfl) (by simp) ?_
          refine AllReadyH.cons rfl (fun K hK => ?_) AllReadyH.nil
          · go_simp
            obtain ⟨B7, hBe⟩ : ∃ B7, B7 = U13.heap.size := ⟨_, rfl⟩
            have hZ7 : (U13.alloc (.cells #[.int .u64 0, .int .u64 0, .int .u64 0, .int .u64 0] 24)).heap[B7]? = some (.cells #[.int .u64 0, .int .u64 0, .int .u64 0, .int .u64 0] 24 (0, 0)) := by rw [hBe]; exact heap_new _ _
            have hL7 : W0.heap.size ≤ B7 := by rw [hBe]; exact hS.size
            have hSA : Below W0.heap.size W0 (U13.alloc (.cells #[.int .u64 0, .int .u64 0, .int .u64 0, .int .u64 0] 24)) := hS.alloc hS.size _
            have hY8 : (U13.alloc (.cells #[.int .u64 0, .int .u64 0, .int .u64 0, .int .u64 0] 24)).heap[B8]? = _ := (heap_old _ _ (Array.getElem?_eq_some_iff.1 hZ8).1).trans hZ8
            clear hZ8
            have hZ8 := hY8
            clear hY8
            have hN78 : B8 ≠ B7 := by rw [hBe]; exact Nat.ne_of_lt (hLT8)
            rw [← hBe]
            have hLT7 : B7 < (U13.alloc (.cells #[.int .u64 0, .int .u64 0, .int .u64 0, .int .u64 0] 24)).heap.size := (Array.getElem?_eq_some_iff.1 hZ7).1
            have hQ8 : B8 < (U13.alloc (.cells #[.int .u64 0, .int .u64 0, .int .u64 0, .int .u64 0] 24)).heap.size := (Array.getElem?_eq_some_iff.1 hZ8).1
            clear hLT8
            have hLT8 := hQ8
            clear hQ8
            generalize (U13.alloc (.cells #[.int .u64 0, .int .u64 0, .int .u64 0, .int .u64 0] 24)) = U14 at hZ7 hZ8 hSA hLT7 hLT8 ⊢
            refine hK.out _ _ hSA (fun hS => ?_)
            clear hK K hSA hBe
            obtain ⟨a0, a1, a2, a3⟩ := cells4 hZ7
            have fa : ∀ o, U14.frozen? ⟨B7, o, none⟩ = false := fun o => blk_free hZ7
            refine wpAnyH_ready (rs := [9]) (by kernel_rfl) (by simp) (AllReadyH.cons rfl (fun K hK => ?_) AllReadyH.nil)
            go_simp
            have g7 := stored4 (z0 := .int .u64 q0) (z1 := .int .u64 q1) (z2 := .int .u64 q2) (z3 := .int .u64 q3) hZ7
            have hSB := below_stored4 (b := B7) (z0 := .int .u64 q0) (z1 := .int .u64 q1) (z2 := .int .u64 q2) (z3 := .int .u64 q3) hS hL7
            have o8 := (other4 (b := B7) (c := B8) (z0 := .int .u64 q0) (z1 := .int .u64 q1) (z2 := .int .u64 q2) (z3 := .int .u64 q3) (by first | exact hN87 | exact (hN87).symm | exact hN78 | exact (hN78).symm)).trans hZ8
            clear hZ8
            have hZ8 := o8
            clear o8
            generalize ((((U14.setCell ⟨B7, 0, none⟩ (.int .u64 q0)).setCell ⟨B7, 1, none⟩ (.int .u64 q1)).setCell ⟨B7, 2, none⟩ (.int .u64 q2)).setCell ⟨B7, 3, none⟩ (.int .u64 q3)) = U14x at g7 hSB hZ8 ⊢
            refine hK.out _ _ hSB (fun hS => ?_)
            clear hK K hSB a0 a1 a2 a3 fa hZ7
            obtain ⟨a0, a1, a2, a3⟩ := cells4 hZ8
            have fa : ∀ o, U14x.frozen? ⟨B8, o, none⟩ = false := fun o => blk_free hZ8
            refine wpAnyH_ready (rs := [10]) (by kernel_rfl) (by simp) (AllReadyH.cons rfl (fun K hK => ?_) AllReadyH.nil)
            go_simp
            have g8 := stored4 (z0 := .int .u64 r0) (z1 := .int .u64 r1) (z2 := .int .u64 r2) (z3 := .int .u64 r3) hZ8
            have hSB := below_stored4 (b := B8) (z0 := .int .u64 r0) (z1 := .int .u64 r1) (z2 := .int .u64 r2) (z3 := .int .u64 r3) hS hL8
            have o7 := (other4 (b := B8) (c := B7) (z0 := .int .u64 r0) (z1 := .int .u64 r1) (z2 := .int .u64 r2) (z3 := .int .u64 r3) (by first | exact hN78 | exact (hN78).symm | exact hN87 | exact (hN87).symm)).trans g7
            clear g7
            have g7 := o7
            clear o7
            generalize ((((U14x.setCell ⟨B8, 0, none⟩ (.int .u64 r0)).setCell ⟨B8, 1, none⟩ (.int .u64 r1)).setCell ⟨B8, 2, none⟩ (.int .u64 r2)).setCell ⟨B8, 3, none⟩ (.int .u64 r3)) = U14xx at g8 hSB g7 ⊢
            refine hK.out _ _ hSB (fun hS => wpAnyH_done (by kernel_rfl) ?_ _)
            clear hK K
            go_wp2_with fail
            go_meet
            exact ⟨B7, B8, rfl, rfl, g7, g8, hL7, hL8, hSB⟩
        · go_simp
          obtain ⟨B7, hBe⟩ : ∃ B7, B7 = U12.heap.size := ⟨_, rfl⟩
          have hZ7 : (U12.alloc (.cells #[.int .u64 0, .int .u64 0, .int .u64 0, .int .u64 0] 24)).heap[B7]? = some (.cells #[.int .u64 0, .int .u64 0, .int .u64 0, .int .u64 0] 24 (0, 0)) := by rw [hBe]; exact heap_new _ _
          have hL7 : W0.heap.size ≤ B7 := by rw [hBe]; exact hS.size
          have hSA : Below W0.heap.size W0 (U12.alloc (.cells #[.int .u64 0, .int .u64 0, .int .u64 0, .int .u64 0] 24)) := hS.alloc hS.size _
          have hY8 : (U12.alloc (.cells #[.int .u64 0, .int .u64 0, .int .u64 0, .int .u64 0] 24)).heap[B8]? = _ := (heap_old _ _ (Array.getElem?_eq_some_iff.1 hZ8).1).trans hZ8
          clear hZ8
          have hZ8 := hY8
          clear hY8
          have hN78 : B8 ≠ B7 := by rw [hBe]; exact Nat.ne_of_lt (hLT8)
          rw [← hBe]
          have hLT7 : B7 < (U12.alloc (.cells #[.int .u64 0, .int .u64 0, .int .u64 0, .int .u64 0] 24)).heap.size := (Array.getElem?_eq_some_iff.1 hZ7).1
          have hQ8 : B8 < (U12.alloc (.cells #[.int .u64 0, .int .u64 0, .int .u64 0, .int .u64 0] 24)).heap.size := (Array.getElem?_eq_some_iff.1 hZ8).1
          clear hLT8
          have hLT8 := hQ8
          clear hQ8
          generalize (U12.alloc (.cells #[.int .u64 0, .int .u64 0, .int .u64 0, .int .u64 0] 24)) = U15 at hZ7 hZ8 hSA hLT7 hLT8 ⊢
          refine hK.out _ _ hSA (fun hS => ?_)
          clear hK K hSA hBe
          refine wpAnyH_ready (rs := [3]) (by kernel_rfl) (by simp) ?_
          refine AllReadyH.cons rfl (fun K hK => ?_) AllReadyH.nil
          · go_simp
            refine (HDV.out _).mono ?_
            rintro e U16 ⟨rfl, hbc⟩
            refine hK.out _ _ (hS.trans (hbc.mono hS.size)) (fun hS => ?_)
            replace hZ8 := (hbc.block B8 (Array.getElem?_eq_some_iff.1 hZ8).1).trans hZ8
            replace hLT8 := (Array.getElem?_eq_some_iff.1 hZ8).1
            replace hZ7 := (hbc.block B7 (Array.getElem?_eq_some_iff.1 hZ7).1).trans hZ7
            replace hLT7 := (Array.getElem?_eq_some_iff.1 hZ7).1
            clear hK K hbc
            refine wpAnyH_take (i := 4) (v := ?_) rfl (by kernel_rfl) (by kernel_rfl) (by kernel_rfl) (fun _ _ _ h => h) (Or.inl ⟨by rfl, ?_⟩) hS ?_
            rotate_left
            · intro V hV
              go_simp
              (try with_reducible rfl)
            simp only [Act.put]
            refine wpAnyH_take (i := 5) (v := ?_) rfl (by kernel_rfl) (by kernel_rfl) (by kernel_rfl) (fun _ _ _ h => h) (Or.inl ⟨by rfl, ?_⟩) hS ?_
            rotate_left
            · intro V hV
              go_simp
              (try with_reducible rfl)
            simp only [Act.put]
            refine wpAnyH_take (i := 6) (v := ?_) rfl (by kernel_rfl) (by kernel_rfl) (by kernel_rfl) (fun _ _ _ h => h) (Or.inl ⟨by rfl, ?_⟩) hS ?_
            rotate_left
            · intro V hV
              go_simp
              (try with_reducible rfl)
            simp only [Act.put]
            obtain ⟨a0, a1, a2, a3⟩ := cells4 hZ7
            have fa : ∀ o, U16.frozen? ⟨B7, o, none⟩ = false := fun o => blk_free hZ7
            refine wpAnyH_ready (rs := [9]) (by kernel_rfl) (by simp) (AllReadyH.cons rfl (fun K hK => ?_) AllReadyH.nil)
            go_simp
            have g7 := stored4 (z0 := .int .u64 q0) (z1 := .int .u64 q1) (z2 := .int .u64 q2) (z3 := .int .u64 q3) hZ7
            have hSB := below_stored4 (b := B7) (z0 := .int .u64 q0) (z1 := .int .u64 q1) (z2 := .int .u64 q2) (z3 := .int .u64 q3) hS hL7
            have o8 := (other4 (b := B7) (c := B8) (z0 := .int .u64 q0) (z1 := .int .u64 q1) (z2 := .int .u64 q2) (z3 := .int .u64 q3) (by first | exact hN87 | exact (hN87).symm | exact hN78 | exact (hN78).symm)).trans hZ8
            clear hZ8
            have hZ8 := o8
            clear o8
            generalize ((((U16.setCell ⟨B7, 0, none⟩ (.int .u64 q0)).setCell ⟨B7, 1, none⟩ (.int .u64 q1)).setCell ⟨B7, 2, none⟩ (.int .u64 q2)).setCell ⟨B7, 3, none⟩ (.int .u64 q3)) = U16x at g7 hSB hZ8 ⊢
            refine hK.out _ _ hSB (fun hS => ?_)
            clear hK K hSB a0 a1 a2 a3 fa hZ7
            obtain ⟨a0, a1, a2, a3⟩ := cells4 hZ8
            have fa : ∀ o, U16x.frozen? ⟨B8, o, none⟩ = false := fun o => blk_free hZ8
            refine wpAnyH_ready (rs := [10]) (by kernel_rfl) (by simp) (AllReadyH.cons rfl (fun K hK => ?_) AllReadyH.nil)
            go_simp
            have g8 := stored4 (z0 := .int .u64 r0) (z1 := .int .u64 r1) (z2 := .int .u64 r2) (z3 := .int .u64 r3) hZ8
            have hSB := below_stored4 (b := B8) (z0 := .int .u64 r0) (z1 := .int .u64 r1) (z2 := .int .u64 r2) (z3 := .int .u64 r3) hS hL8
            have o7 := (other4 (b := B8) (c := B7) (z0 := .int .u64 r0) (z1 := .int .u64 r1) (z2 := .int .u64 r2) (z3 := .int .u64 r3) (by first | exact hN78 | exact (hN78).symm | exact hN87 | exact (hN87).symm)).trans g7
            clear g7
            have g7 := o7
            clear o7
            generalize ((((U16x.setCell ⟨B8, 0, none⟩ (.int .u64 r0)).setCell ⟨B8, 1, none⟩ (.int .u64 r1)).setCell ⟨B8, 2, none⟩ (.int .u64 r2)).setCell ⟨B8, 3, none⟩ (.int .u64 r3)) = U16xx at g8 hSB g7 ⊢
            refine hK.out _ _ hSB (fun hS => wpAnyH_done (by kernel_rfl) ?_ _)
            clear hK K
            go_wp2_with fail
            go_meet
            exact ⟨B7, B8, rfl, rfl, g7, g8, hL7, hL8, hSB⟩
    · go_simp
      obtain ⟨B7, hBe⟩ : ∃ B7, B7 = W0.heap.size := ⟨_, rfl⟩
      have hZ7 : (W0.alloc (.cells #[.int .u64 0, .int .u64 0, .int .u64 0, .int .u64 0] 24)).drew.heap[B7]? = some (.cells #[.int .u64 0, .int .u64 0, .int .u64 0, .int .u64 0] 24 (0, 0)) := by rw [hBe]; exact heap_new _ _
      have hL7 : W0.heap.size ≤ B7 := by rw [hBe]; exact Nat.le_refl _
      have hSA : Below W0.heap.size W0 (W0.alloc (.cells #[.int .u64 0, .int .u64 0, .int .u64 0, .int .u64 0] 24)).drew := ((Below.refl _ W0).alloc (Nat.le_refl _) _).drew
      rw [← hBe]
      have hLT7 : B7 < (W0.alloc (.cells #[.int .u64 0, .int .u64 0, .int .u64 0, .int .u64 0] 24)).drew.heap.size := (Array.getElem?_eq_some_iff.1 hZ7).1
      generalize (W0.alloc (.cells #[.int .u64 0, .int .u64 0, .int .u64 0, .int .u64 0] 24)).drew = U17 at hZ7  hSA hLT7  ⊢
      refine hK.out _ _ hSA (fun hS => ?_)
      clear hK K hSA hBe
      refine wpAnyH_ready (rs := [2, 8]) (by kernel_rfl) (by simp) ?_
      refine AllReadyH.cons rfl (fun K hK => ?_) (AllReadyH.cons rfl (fun K hK => ?_) AllReadyH.nil)
      · go_simp
        refine (HOF.out _).mono ?_
        rintro e U18 ⟨rfl, hbc⟩
        refine hK.out _ _ (hS.trans (hbc.mono hS.size)) (fun hS => ?_)
        replace hZ7 := (hbc.block B7 (Array.getElem?_eq_some_iff.1 hZ7).1).trans hZ7
        replace hLT7 := (Array.getElem?_eq_some_iff.1 hZ7).1
        clear hK K hbc
        refine wpAnyH_ready (rs := [3, 8]) (by kernel_rfl) (by simp) ?_
        refine AllReadyH.cons rfl (fun K hK => ?_) (AllReadyH.cons rfl (fun K hK => ?_) AllReadyH.nil)
        · go_simp
          refine (HDV.out _).mono ?_
          rintro e U19 ⟨rfl, hbc⟩
          refine hK.out _ _ (hS.trans (hbc.mono hS.size)) (fun hS => ?_)
          replace hZ7 := (hbc.block B7 (Array.getElem?_eq_some_iff.1 hZ7).1).trans hZ7
          replace hLT7 := (Array.getElem?_eq_some_iff.1 hZ7).1
          clear hK K hbc
          refine wpAnyH_take (i := 4) (v := ?_) rfl (by kernel_rfl) (by kernel_rfl) (by kernel_rfl) (fun _ _ _ h => h) (Or.inl ⟨by rfl, ?_⟩) hS ?_
          rotate_left
          · intro V hV
            go_simp
            (try with_reducible rfl)
          simp only [Act.put]
          refine wpAnyH_take (i := 5) (v := ?_) rfl (by kernel_rfl) (by kernel_rfl) (by kernel_rfl) (fun _ _ _ h => h) (Or.inl ⟨by rfl, ?_⟩) hS ?_
          rotate_left
          · intro V hV
            go_simp
            (try with_reducible rfl)
          simp only [Act.put]
          refine wpAnyH_take (i := 6) (v := ?_) rfl (by kernel_rfl) (by kernel_rfl) (by kernel_rfl) (fun _ _ _ h => h) (Or.inl ⟨by rfl, ?_⟩) hS ?_
          rotate_left
          · intro V hV
            go_simp
            (try with_reducible rfl)
          simp only [Act.put]
          refine wpAnyH_ready (rs := [8]) (by kernel_rfl) (by simp) ?_
          refine AllReadyH.cons rfl (fun K hK => ?_) AllReadyH.nil
          · go_simp
            obtain ⟨B8, hBe⟩ : ∃ B8, B8 = U19.heap.size := ⟨_, rfl⟩
            have hZ8 : (U19.alloc (.cells #[.int .u64 0, .int .u64 0, .int .u64 0, .int .u64 0] 24)).heap[B8]? = some (.cells #[.int .u64 0, .int .u64 0, .int .u64 0, .int .u64 0] 24 (0, 0)) := by rw [hBe]; exact heap_new _ _
            have hL8 : W0.heap.size ≤ B8 := by rw [hBe]; exact hS.size
            have hSA : Below W0.heap.size W0 (U19.alloc (.cells #[.int .u64 0, .int .u64 0, .int .u64 0, .int .u64 0] 24)) := hS.alloc hS.size _
            have hY7 : (U19.alloc (.cells #[.int .u64 0, .int .u64 0, .int .u64 0, .int .u64 0] 24)).heap[B7]? = _ := (heap_old _ _ (Array.getElem?_eq_some_iff.1 hZ7).1).trans hZ7
            clear hZ7
            have hZ7 := hY7
            clear hY7
            have hN87 : B7 ≠ B8 := by rw [hBe]; exact Nat.ne_of_lt (hLT7)
            rw [← hBe]
            have hLT8 : B8 < (U19.alloc (.cells #[.int .u64 0, .int .u64 0, .int .u64 0, .int .u64 0] 24)).heap.size := (Array.getElem?_eq_some_iff.1 hZ8).1
            have hQ7 : B7 < (U19.alloc (.cells #[.int .u64 0, .int .u64 0, .int .u64 0, .int .u64 0] 24)).heap.size := (Array.getElem?_eq_some_iff.1 hZ7).1
            clear hLT7
            have hLT7 := hQ7
            clear hQ7
            generalize (U19.alloc (.cells #[.int .u64 0, .int .u64 0, .int .u64 0, .int .u64 0] 24)) = U20 at hZ8 hZ7 hSA hLT8 hLT7 ⊢
            refine hK.out _ _ hSA (fun hS => ?_)
            clear hK K hSA hBe
            obtain ⟨a0, a1, a2, a3⟩ := cells4 hZ7
            have fa : ∀ o, U20.frozen? ⟨B7, o, none⟩ = false := fun o => blk_free hZ7
            refine wpAnyH_ready (rs := [9]) (by kernel_rfl) (by simp) (AllReadyH.cons rfl (fun K hK => ?_) AllReadyH.nil)
            go_simp
            have g7 := stored4 (z0 := .int .u64 q0) (z1 := .int .u64 q1) (z2 := .int .u64 q2) (z3 := .int .u64 q3) hZ7
            have hSB := below_stored4 (b := B7) (z0 := .int .u64 q0) (z1 := .int .u64 q1) (z2 := .int .u64 q2) (z3 := .int .u64 q3) hS hL7
            have o8 := (other4 (b := B7) (c := B8) (z0 := .int .u64 q0) (z1 := .int .u64 q1) (z2 := .int .u64 q2) (z3 := .int .u64 q3) (by first | exact hN87 | exact (hN87).symm | exact hN78 | exact (hN78).symm)).trans hZ8
            clear hZ8
            have hZ8 := o8
            clear o8
            generalize ((((U20.setCell ⟨B7, 0, none⟩ (.int .u64 q0)).setCell ⟨B7, 1, none⟩ (.int .u64 q1)).setCell ⟨B7, 2, none⟩ (.int .u64 q2)).setCell ⟨B7, 3, none⟩ (.int .u64 q3)) = U20x at g7 hSB hZ8 ⊢
            refine hK.out _ _ hSB (fun hS => ?_)
            clear hK K hSB a0 a1 a2 a3 fa hZ7
            obtain ⟨a0, a1, a2, a3⟩ := cells4 hZ8
            have fa : ∀ o, U20x.frozen? ⟨B8, o, none⟩ = false := fun o => blk_free hZ8
            refine wpAnyH_ready (rs := [10]) (by kernel_rfl) (by simp) (AllReadyH.cons rfl (fun K hK => ?_) AllReadyH.nil)
            go_simp
            have g8 := stored4 (z0 := .int .u64 r0) (z1 := .int .u64 r1) (z2 := .int .u64 r2) (z3 := .int .u64 r3) hZ8
            have hSB := below_stored4 (b := B8) (z0 := .int .u64 r0) (z1 := .int .u64 r1) (z2 := .int .u64 r2) (z3 := .int .u64 r3) hS hL8
            have o7 := (other4 (b := B8) (c := B7) (z0 := .int .u64 r0) (z1 := .int .u64 r1) (z2 := .int .u64 r2) (z3 := .int .u64 r3) (by first | exact hN78 | exact (hN78).symm | exact hN87 | exact (hN87).symm)).trans g7
            clear g7
            have g7 := o7
            clear o7
            generalize ((((U20x.setCell ⟨B8, 0, none⟩ (.int .u64 r0)).setCell ⟨B8, 1, none⟩ (.int .u64 r1)).setCell ⟨B8, 2, none⟩ (.int .u64 r2)).setCell ⟨B8, 3, none⟩ (.int .u64 r3)) = U20xx at g8 hSB g7 ⊢
            refine hK.out _ _ hSB (fun hS => wpAnyH_done (by kernel_rfl) ?_ _)
            clear hK K
            go_wp2_with fail
            go_meet
            exact ⟨B7, B8, rfl, rfl, g7, g8, hL7, hL8, hSB⟩
        · go_simp
          obtain ⟨B8, hBe⟩ : ∃ B8, B8 = U18.heap.size := ⟨_, rfl⟩
          have hZ8 : (U18.alloc (.cells #[.int .u64 0, .int .u64 0, .int .u64 0, .int .u64 0] 24)).heap[B8]? = some (.cells #[.int .u64 0, .int .u64 0, .int .u64 0, .int .u64 0] 24 (0, 0)) := by rw [hBe]; exact heap_new _ _
          have hL8 : W0.heap.size ≤ B8 := by rw [hBe]; exact hS.size
          have hSA : Below W0.heap.size W0 (U18.alloc (.cells #[.int .u64 0, .int .u64 0, .int .u64 0, .int .u64 0] 24)) := hS.alloc hS.size _
          have hY7 : (U18.alloc (.cells #[.int .u64 0, .int .u64 0, .int .u64 0, .int .u64 0] 24)).heap[B7]? = _ := (heap_old _ _ (Array.getElem?_eq_some_iff.1 hZ7).1).trans hZ7
          clear hZ7
          have hZ7 := hY7
          clear hY7
          have hN87 : B7 ≠ B8 := by rw [hBe]; exact Nat.ne_of_lt (hLT7)
          rw [← hBe]
          have hLT8 : B8 < (U18.alloc (.cells #[.int .u64 0, .int .u64 0, .int .u64 0, .int .u64 0] 24)).heap.size := (Array.getElem?_eq_some_iff.1 hZ8).1
          have hQ7 : B7 < (U18.alloc (.cells #[.int .u64 0, .int .u64 0, .int .u64 0, .int .u64 0] 24)).heap.size := (Array.getElem?_eq_some_iff.1 hZ7).1
          clear hLT7
          have hLT7 := hQ7
          clear hQ7
          generalize (U18.alloc (.cells #[.int .u64 0, .int .u64 0, .int .u64 0, .int .u64 0] 24)) = U21 at hZ8 hZ7 hSA hLT8 hLT7 ⊢
          refine hK.out _ _ hSA (fun hS => ?_)
          clear hK K hSA hBe
          refine wpAnyH_ready (rs := [3]) (by kernel_rfl) (by simp) ?_
          refine AllReadyH.cons rfl (fun K hK => ?_) AllReadyH.nil
          · go_simp
            refine (HDV.out _).mono ?_
            rintro e U22 ⟨rfl, hbc⟩
            refine hK.out _ _ (hS.trans (hbc.mono hS.size)) (fun hS => ?_)
            replace hZ7 := (hbc.block B7 (Array.getElem?_eq_some_iff.1 hZ7).1).trans hZ7
            replace hLT7 := (Array.getElem?_eq_some_iff.1 hZ7).1
            replace hZ8 := (hbc.block B8 (Array.getElem?_eq_some_iff.1 hZ8).1).trans hZ8
            replace hLT8 := (Array.getElem?_eq_some_iff.1 hZ8).1
            clear hK K hbc
            refine wpAnyH_take (i := 4) (v := ?_) rfl (by kernel_rfl) (by kernel_rfl) (by kernel_rfl) (fun _ _ _ h => h) (Or.inl ⟨by rfl, ?_⟩) hS ?_
            rotate_left
            · intro V hV
              go_simp
              (try with_reducible rfl)
            simp only [Act.put]
            refine wpAnyH_take (i := 5) (v := ?_) rfl (by kernel_rfl) (by kernel_rfl) (by kernel_rfl) (fun _ _ _ h => h) (Or.inl ⟨by rfl, ?_⟩) hS ?_
            rotate_left
            · intro V hV
              go_simp
              (try with_reducible rfl)
            simp only [Act.put]
            refine wpAnyH_take (i := 6) (v := ?_) rfl (by kernel_rfl) (by kernel_rfl) (by kernel_rfl) (fun _ _ _ h => h) (Or.inl ⟨by rfl, ?_⟩) hS ?_
            rotate_left
            · intro V hV
              go_simp
              (try with_reducible rfl)
            simp only [Act.put]
            obtain ⟨a0, a1, a2, a3⟩ := cells4 hZ7
            have fa : ∀ o, U22.frozen? ⟨B7, o, none⟩ = false := fun o => blk_free hZ7
            refine wpAnyH_ready (rs := [9]) (by kernel_rfl) (by simp) (AllReadyH.cons rfl (fun K hK => ?_) AllReadyH.nil)
            go_simp
            have g7 := stored4 (z0 := .int .u64 q0) (z1 := .int .u64 q1) (z2 := .int .u64 q2) (z3 := .int .u64 q3) hZ7
            have hSB := below_stored4 (b := B7) (z0 := .int .u64 q0) (z1 := .int .u64 q1) (z2 := .int .u64 q2) (z3 := .int .u64 q3) hS hL7
            have o8 := (other4 (b := B7) (c := B8) (z0 := .int .u64 q0) (z1 := .int .u64 q1) (z2 := .int .u64 q2) (z3 := .int .u64 q3) (by first | exact hN87 | exact (hN87).symm | exact hN78 | exact (hN78).symm)).trans hZ8
            clear hZ8
            have hZ8 := o8
            clear o8
            generalize ((((U22.setCell ⟨B7, 0, none⟩ (.int .u64 q0)).setCell ⟨B7, 1, none⟩ (.int .u64 q1)).setCell ⟨B7, 2, none⟩ (.int .u64 q2)).setCell ⟨B7, 3, none⟩ (.int .u64 q3)) = U22x at g7 hSB hZ8 ⊢
            refine hK.out _ _ hSB (fun hS => ?_)
            clear hK K hSB a0 a1 a2 a3 fa hZ7
            obtain ⟨a0, a1, a2, a3⟩ := cells4 hZ8
            have fa : ∀ o, U22x.frozen? ⟨B8, o, none⟩ = false := fun o => blk_free hZ8
            refine wpAnyH_ready (rs := [10]) (by kernel_rfl) (by simp) (AllReadyH.cons rfl (fun K hK => ?_) AllReadyH.nil)
            go_simp
            have g8 := stored4 (z0 := .int .u64 r0) (z1 := .int .u64 r1) (z2 := .int .u64 r2) (z3 := .int .u64 r3) hZ8
            have hSB := below_stored4 (b := B8) (z0 := .int .u64 r0) (z1 := .int .u64 r1) (z2 := .int .u64 r2) (z3 := .int .u64 r3) hS hL8
            have o7 := (other4 (b := B8) (c := B7) (z0 := .int .u64 r0) (z1 := .int .u64 r1) (z2 := .int .u64 r2) (z3 := .int .u64 r3) (by first | exact hN78 | exact (hN78).symm | exact hN87 | exact (hN87).symm)).trans g7
            clear g7
            have g7 := o7
            clear o7
            generalize ((((U22x.setCell ⟨B8, 0, none⟩ (.int .u64 r0)).setCell ⟨B8, 1, none⟩ (.int .u64 r1)).setCell ⟨B8, 2, none⟩ (.int .u64 r2)).setCell ⟨B8, 3, none⟩ (.int .u64 r3)) = U22xx at g8 hSB g7 ⊢
            refine hK.out _ _ hSB (fun hS => wpAnyH_done (by kernel_rfl) ?_ _)
            clear hK K
            go_wp2_with fail
            go_meet
            exact ⟨B7, B8, rfl, rfl, g7, g8, hL7, hL8, hSB⟩
      · go_simp
        obtain ⟨B8, hBe⟩ : ∃ B8, B8 = U17.heap.size := ⟨_, rfl⟩
        have hZ8 : (U17.alloc (.cells #[.int .u64 0, .int .u64 0, .int .u64 0, .int .u64 0] 24)).heap[B8]? = some (.cells #[.int .u64 0, .int .u64 0, .int .u64 0, .int .u64 0] 24 (0, 0)) := by rw [hBe]; exact heap_new _ _
        have hL8 : W0.heap.size ≤ B8 := by rw [hBe]; exact hS.size
        have hSA : Below W0.heap.size W0 (U17.alloc (.cells #[.int .u64 0, .int .u64 0, .int .u64 0, .int .u64 0] 24)) := hS.alloc hS.size _
        have hY7 : (U17.alloc (.cells #[.int .u64 0, .int .u64 0, .int .u64 0, .int .u64 0] 24)).heap[B7]? = _ := (heap_old _ _ (Array.getElem?_eq_some_iff.1 hZ7).1).trans hZ7
        clear hZ7
        have hZ7 := hY7
        clear hY7
        have hN87 : B7 ≠ B8 := by rw [hBe]; exact Nat.ne_of_lt (hLT7)
        rw [← hBe]
        have hLT8 : B8 < (U17.alloc (.cells #[.int .u64 0, .int .u64 0, .int .u64 0, .int .u64 0] 24)).heap.size := (Array.getElem?_eq_some_iff.1 hZ8).1
        have hQ7 : B7 < (U17.alloc (.cells #[.int .u64 0, .int .u64 0, .int .u64 0, .int .u64 0] 24)).heap.size := (Array.getElem?_eq_some_iff.1 hZ7).1
        clear hLT7
        have hLT7 := hQ7
        clear hQ7
        generalize (U17.alloc (.cells #[.int .u64 0, .int .u64 0, .int .u64 0, .int .u64 0] 24)) = U23 at hZ8 hZ7 hSA hLT8 hLT7 ⊢
        refine hK.out _ _ hSA (fun hS => ?_)
        clear hK K hSA hBe
        refine wpAnyH_ready (rs := [2]) (by kernel_rfl) (by simp) ?_
        refine AllReadyH.cons rfl (fun K hK => ?_) AllReadyH.nil
        · go_simp
          refine (HOF.out _).mono ?_
          rintro e U24 ⟨rfl, hbc⟩
          refine hK.out _ _ (hS.trans (hbc.mono hS.size)) (fun hS => ?_)
          replace hZ7 := (hbc.block B7 (Array.getElem?_eq_some_iff.1 hZ7).1).trans hZ7
          replace hLT7 := (Array.getElem?_eq_some_iff.1 hZ7).1
          replace hZ8 := (hbc.block B8 (Array.getElem?_eq_some_iff.1 hZ8).1).trans hZ8
          replace hLT8 := (Array.getElem?_eq_some_iff.1 hZ8).1
          clear hK K hbc
          refine wpAnyH_ready (rs := [3]) (by kernel_rfl) (by simp) ?_
          refine AllReadyH.cons rfl (fun K hK => ?_) AllReadyH.nil
          · go_simp
            refine (HDV.out _).mono ?_
            rintro e U25 ⟨rfl, hbc⟩
            refine hK.out _ _ (hS.trans (hbc.mono hS.size)) (fun hS => ?_)
            replace hZ7 := (hbc.block B7 (Array.getElem?_eq_some_iff.1 hZ7).1).trans hZ7
            replace hLT7 := (Array.getElem?_eq_some_iff.1 hZ7).1
            replace hZ8 := (hbc.block B8 (Array.getElem?_eq_some_iff.1 hZ8).1).trans hZ8
            replace hLT8 := (Array.getElem?_eq_some_iff.1 hZ8).1
            clear hK K hbc
            refine wpAnyH_take (i := 4) (v := ?_) rfl (by kernel_rfl) (by kernel_rfl) (by kernel_rfl) (fun _ _ _ h => h) (Or.inl ⟨by rfl, ?_⟩) hS ?_
            rotate_left
            · intro V hV
              go_simp
              (try with_reducible rfl)
            simp only [Act.put]
            refine wpAnyH_take (i := 5) (v := ?_) rfl (by kernel_rfl) (by kernel_rfl) (by kernel_rfl) (fun _ _ _ h => h) (Or.inl ⟨by rfl, ?_⟩) hS ?_
            rotate_left
            · intro V hV
              go_simp
              (try with_reducible rfl)
            simp only [Act.put]
            refine wpAnyH_take (i := 6) (v := ?_) rfl (by kernel_rfl) (by kernel_rfl) (by kernel_rfl) (fun _ _ _ h => h) (Or.inl ⟨by rfl, ?_⟩) hS ?_
            rotate_left
            · intro V hV
              go_simp
              (try with_reducible rfl)
            simp only [Act.put]
            obtain ⟨a0, a1, a2, a3⟩ := cells4 hZ7
            have fa : ∀ o, U25.frozen? ⟨B7, o, none⟩ = false := fun o => blk_free hZ7
            refine wpAnyH_ready (rs := [9]) (by kernel_rfl) (by simp) (AllReadyH.cons rfl (fun K hK => ?_) AllReadyH.nil)
            go_simp
            have g7 := stored4 (z0 := .int .u64 q0) (z1 := .int .u64 q1) (z2 := .int .u64 q2) (z3 := .int .u64 q3) hZ7
            have hSB := below_stored4 (b := B7) (z0 := .int .u64 q0) (z1 := .int .u64 q1) (z2 := .int .u64 q2) (z3 := .int .u64 q3) hS hL7
            have o8 := (other4 (b := B7) (c := B8) (z0 := .int .u64 q0) (z1 := .int .u64 q1) (z2 := .int .u64 q2) (z3 := .int .u64 q3) (by first | exact hN87 | exact (hN87).symm | exact hN78 | exact (hN78).symm)).trans hZ8
            clear hZ8
            have hZ8 := o8
            clear o8
            generalize ((((U25.setCell ⟨B7, 0, none⟩ (.int .u64 q0)).setCell ⟨B7, 1, none⟩ (.int .u64 q1)).setCell ⟨B7, 2, none⟩ (.int .u64 q2)).setCell ⟨B7, 3, none⟩ (.int .u64 q3)) = U25x at g7 hSB hZ8 ⊢
            refine hK.out _ _ hSB (fun hS => ?_)
            clear hK K hSB a0 a1 a2 a3 fa hZ7
            obtain ⟨a0, a1, a2, a3⟩ := cells4 hZ8
            have fa : ∀ o, U25x.frozen? ⟨B8, o, none⟩ = false := fun o => blk_free hZ8
            refine wpAnyH_ready (rs := [10]) (by kernel_rfl) (by simp) (AllReadyH.cons rfl (fun K hK => ?_) AllReadyH.nil)
            go_simp
            have g8 := stored4 (z0 := .int .u64 r0) (z1 := .int .u64 r1) (z2 := .int .u64 r2) (z3 := .int .u64 r3) hZ8
            have hSB := below_stored4 (b := B8) (z0 := .int .u64 r0) (z1 := .int .u64 r1) (z2 := .int .u64 r2) (z3 := .int .u64 r3) hS hL8
            have o7 := (other4 (b := B8) (c := B7) (z0 := .int .u64 r0) (z1 := .int .u64 r1) (z2 := .int .u64 r2) (z3 := .int .u64 r3) (by first | exact hN78 | exact (hN78).symm | exact hN87 | exact (hN87).symm)).trans g7
            clear g7
            have g7 := o7
            clear o7
            generalize ((((U25x.setCell ⟨B8, 0, none⟩ (.int .u64 r0)).setCell ⟨B8, 1, none⟩ (.int .u64 r1)).setCell ⟨B8, 2, none⟩ (.int .u64 r2)).setCell ⟨B8, 3, none⟩ (.int .u64 r3)) = U25xx at g8 hSB g7 ⊢
            refine hK.out _ _ hSB (fun hS => wpAnyH_done (by kernel_rfl) ?_ _)
            clear hK K
            go_wp2_with fail
            go_meet
            exact ⟨B7, B8, rfl, rfl, g7, g8, hL7, hL8, hSB⟩
    · go_simp
      obtain ⟨B8, hBe⟩ : ∃ B8, B8 = W0.heap.size := ⟨_, rfl⟩
      have hZ8 : (W0.alloc (.cells #[.int .u64 0, .int .u64 0, .int .u64 0, .int .u64 0] 24)).drew.heap[B8]? = some (.cells #[.int .u64 0, .int .u64 0, .int .u64 0, .int .u64 0] 24 (0, 0)) := by rw [hBe]; exact heap_new _ _
      have hL8 : W0.heap.size ≤ B8 := by rw [hBe]; exact Nat.le_refl _
      have hSA : Below W0.heap.size W0 (W0.alloc (.cells #[.int .u64 0, .int .u64 0, .int .u64 0, .int .u64 0] 24)).drew := ((Below.refl _ W0).alloc (Nat.le_refl _) _).drew
      rw [← hBe]
      have hLT8 : B8 < (W0.alloc (.cells #[.int .u64 0, .int .u64 0, .int .u64 0, .int .u64 0] 24)).drew.heap.size := (Array.getElem?_eq_some_iff.1 hZ8).1
      generalize (W0.alloc (.cells #[.int .u64 0, .int .u64 0, .int .u64 0, .int .u64 0] 24)).drew = U26 at hZ8  hSA hLT8  ⊢
      refine hK.out _ _ hSA (fun hS => ?_)
      clear hK K hSA hBe
      refine wpAnyH_ready (rs := [2, 7]) (by kernel_rfl) (by simp) ?_
      refine AllReadyH.cons rfl (fun K hK => ?_) (AllReadyH.cons rfl (fun K hK => ?_) AllReadyH.nil)
      · go_simp
        refine (HOF.out _).mono ?_
        rintro e U27 ⟨rfl, hbc⟩
        refine hK.out _ _ (hS.trans (hbc.mono hS.size)) (fun hS => ?_)
        replace hZ8 := (hbc.block B8 (Array.getElem?_eq_some_iff.1 hZ8).1).trans hZ8
        replace hLT8 := (Array.getElem?_eq_some_iff.1 hZ8).1
        clear hK K hbc
        refine wpAnyH_ready (rs := [3, 7]) (by kernel_rfl) (by simp) ?_
        refine AllReadyH.cons rfl (fun K hK => ?_) (AllReadyH.cons rfl (fun K hK => ?_) AllReadyH.nil)
        · go_simp
          refine (HDV.out _).mono ?_
          rintro e U28 ⟨rfl, hbc⟩
          refine hK.out _ _ (hS.trans (hbc.mono hS.size)) (fun hS => ?_)
          replace hZ8 := (hbc.block B8 (Array.getElem?_eq_some_iff.1 hZ8).1).trans hZ8
          replace hLT8 := (Array.getElem?_eq_some_iff.1 hZ8).1
          clear hK K hbc
          refine wpAnyH_take (i := 4) (v := ?_) rfl (by kernel_rfl) (by kernel_rfl) (by kernel_rfl) (fun _ _ _ h => h) (Or.inl ⟨by rfl, ?_⟩) hS ?_
          rotate_left
          · intro V hV
            go_simp
            (try with_reducible rfl)
          simp only [Act.put]
          refine wpAnyH_take (i := 5) (v := ?_) rfl (by kernel_rfl) (by kernel_rfl) (by kernel_rfl) (fun _ _ _ h => h) (Or.inl ⟨by rfl, ?_⟩) hS ?_
          rotate_left
          · intro V hV
            go_simp
            (try with_reducible rfl)
          simp only [Act.put]
          refine wpAnyH_take (i := 6) (v := ?_) rfl (by kernel_rfl) (by kernel_rfl) (by kernel_rfl) (fun _ _ _ h => h) (Or.inl ⟨by rfl, ?_⟩) hS ?_
          rotate_left
          · intro V hV
            go_simp
            (try with_reducible rfl)
          simp only [Act.put]
          refine wpAnyH_ready (rs := [7]) (by kernel_rfl) (by simp) ?_
          refine AllReadyH.cons rfl (fun K hK => ?_) AllReadyH.nil
          · go_simp
            obtain ⟨B7, hBe⟩ : ∃ B7, B7 = U28.heap.size := ⟨_, rfl⟩
            have hZ7 : (U28.alloc (.cells #[.int .u64 0, .int .u64 0, .int .u64 0, .int .u64 0] 24)).heap[B7]? = some (.cells #[.int .u64 0, .int .u64 0, .int .u64 0, .int .u64 0] 24 (0, 0)) := by rw [hBe]; exact heap_new _ _
            have hL7 : W0.heap.size ≤ B7 := by rw [hBe]; exact hS.size
            have hSA : Below W0.heap.size W0 (U28.alloc (.cells #[.int .u64 0, .int .u64 0, .int .u64 0, .int .u64 0] 24)) := hS.alloc hS.size _
            have hY8 : (U28.alloc (.cells #[.int .u64 0, .int .u64 0, .int .u64 0, .int .u64 0] 24)).heap[B8]? = _ := (heap_old _ _ (Array.getElem?_eq_some_iff.1 hZ8).1).trans hZ8
            clear hZ8
            have hZ8 := hY8
            clear hY8
            have hN78 : B8 ≠ B7 := by rw [hBe]; exact Nat.ne_of_lt (hLT8)
            rw [← hBe]
            have hLT7 : B7 < (U28.alloc (.cells #[.int .u64 0, .int .u64 0, .int .u64 0, .int .u64 0] 24)).heap.size := (Array.getElem?_eq_some_iff.1 hZ7).1
            have hQ8 : B8 < (U28.alloc (.cells #[.int .u64 0, .int .u64 0, .int .u64 0, .int .u64 0] 24)).heap.size := (Array.getElem?_eq_some_iff.1 hZ8).1
            clear hLT8
            have hLT8 := hQ8
            clear hQ8
            generalize (U28.alloc (.cells #[.int .u64 0, .int .u64 0, .int .u64 0, .int .u64 0] 24)) = U29 at hZ7 hZ8 hSA hLT7 hLT8 ⊢
            refine hK.out _ _ hSA (fun hS => ?_)
            clear hK K hSA hBe
            obtain ⟨a0, a1, a2, a3⟩ := cells4 hZ7
            have fa : ∀ o, U29.frozen? ⟨B7, o, none⟩ = false := fun o => blk_free hZ7
            refine wpAnyH_ready (rs := [9]) (by kernel_rfl) (by simp) (AllReadyH.cons rfl (fun K hK => ?_) AllReadyH.nil)
            go_simp
            have g7 := stored4 (z0 := .int .u64 q0) (z1 := .int .u64 q1) (z2 := .int .u64 q2) (z3 := .int .u64 q3) hZ7
            have hSB := below_stored4 (b := B7) (z0 := .int .u64 q0) (z1 := .int .u64 q1) (z2 := .int .u64 q2) (z3 := .int .u64 q3) hS hL7
            have o8 := (other4 (b := B7) (c := B8) (z0 := .int .u64 q0) (z1 := .int .u64 q1) (z2 := .int .u64 q2) (z3 := .int .u64 q3) (by first | exact hN87 | exact (hN87).symm | exact hN78 | exact (hN78).symm)).trans hZ8
            clear hZ8
            have hZ8 := o8
            clear o8
            generalize ((((U29.setCell ⟨B7, 0, none⟩ (.int .u64 q0)).setCell ⟨B7, 1, none⟩ (.int .u64 q1)).setCell ⟨B7, 2, none⟩ (.int .u64 q2)).setCell ⟨B7, 3, none⟩ (.int .u64 q3)) = U29x at g7 hSB hZ8 ⊢
            refine hK.out _ _ hSB (fun hS => ?_)
            clear hK K hSB a0 a1 a2 a3 fa hZ7
            obtain ⟨a0, a1, a2, a3⟩ := cells4 hZ8
            have fa : ∀ o, U29x.frozen? ⟨B8, o, none⟩ = false := fun o => blk_free hZ8
            refine wpAnyH_ready (rs := [10]) (by kernel_rfl) (by simp) (AllReadyH.cons rfl (fun K hK => ?_) AllReadyH.nil)
            go_simp
            have g8 := stored4 (z0 := .int .u64 r0) (z1 := .int .u64 r1) (z2 := .int .u64 r2) (z3 := .int .u64 r3) hZ8
            have hSB := below_stored4 (b := B8) (z0 := .int .u64 r0) (z1 := .int .u64 r1) (z2 := .int .u64 r2) (z3 := .int .u64 r3) hS hL8
            have o7 := (other4 (b := B8) (c := B7) (z0 := .int .u64 r0) (z1 := .int .u64 r1) (z2 := .int .u64 r2) (z3 := .int .u64 r3) (by first | exact hN78 | exact (hN78).symm | exact hN87 | exact (hN87).symm)).trans g7
            clear g7
            have g7 := o7
            clear o7
            generalize ((((U29x.setCell ⟨B8, 0, none⟩ (.int .u64 r0)).setCell ⟨B8, 1, none⟩ (.int .u64 r1)).setCell ⟨B8, 2, none⟩ (.int .u64 r2)).setCell ⟨B8, 3, none⟩ (.int .u64 r3)) = U29xx at g8 hSB g7 ⊢
            refine hK.out _ _ hSB (fun hS => wpAnyH_done (by kernel_rfl) ?_ _)
            clear hK K
            go_wp2_with fail
            go_meet
            exact ⟨B7, B8, rfl, rfl, g7, g8, hL7, hL8, hSB⟩
        · go_simp
          obtain ⟨B7, hBe⟩ : ∃ B7, B7 = U27.heap.size := ⟨_, rfl⟩
          have hZ7 : (U27.alloc (.cells #[.int .u64 0, .int .u64 0, .int .u64 0, .int .u64 0] 24)).heap[B7]? = some (.cells #[.int .u64 0, .int .u64 0, .int .u64 0, .int .u64 0] 24 (0, 0)) := by rw [hBe]; exact heap_new _ _
          have hL7 : W0.heap.size ≤ B7 := by rw [hBe]; exact hS.size
          have hSA : Below W0.heap.size W0 (U27.alloc (.cells #[.int .u64 0, .int .u64 0, .int .u64 0, .int .u64 0] 24)) := hS.alloc hS.size _
          have hY8 : (U27.alloc (.cells #[.int .u64 0, .int .u64 0, .int .u64 0, .int .u64 0] 24)).heap[B8]? = _ := (heap_old _ _ (Array.getElem?_eq_some_iff.1 hZ8).1).trans hZ8
          clear hZ8
          have hZ8 := hY8
          clear hY8
          have hN78 : B8 ≠ B7 := by rw [hBe]; exact Nat.ne_of_lt (hLT8)
          rw [← hBe]
          have hLT7 : B7 < (U27.alloc (.cells #[.int .u64 0, .int .u64 0, .int .u64 0, .int .u64 0] 24)).heap.size := (Array.getElem?_eq_some_iff.1 hZ7).1
          have hQ8 : B8 < (U27.alloc (.cells #[.int .u64 0, .int .u64 0, .int .u64 0, .int .u64 0] 24)).heap.size := (Array.getElem?_eq_some_iff.1 hZ8).1
          clear hLT8
          have hLT8 := hQ8
          clear hQ8
          generalize (U27.alloc (.cells #[.int .u64 0, .int .u64 0, .int .u64 0, .int .u64 0] 24)) = U30 at hZ7 hZ8 hSA hLT7 hLT8 ⊢
          refine hK.out _ _ hSA (fun hS => ?_)
          clear hK K hSA hBe
          refine wpAnyH_ready (rs := [3]) (by kernel_rfl) (by simp) ?_
          refine AllReadyH.cons rfl (fun K hK => ?_) AllReadyH.nil
          · go_simp
            refine (HDV.out _).mono ?_
            rintro e U31 ⟨rfl, hbc⟩
            refine hK.out _ _ (hS.trans (hbc.mono hS.size)) (fun hS => ?_)
            replace hZ8 := (hbc.block B8 (Array.getElem?_eq_some_iff.1 hZ8).1).trans hZ8
            replace hLT8 := (Array.getElem?_eq_some_iff.1 hZ8).1
            replace hZ7 := (hbc.block B7 (Array.getElem?_eq_some_iff.1 hZ7).1).trans hZ7
            replace hLT7 := (Array.getElem?_eq_some_iff.1 hZ7).1
            clear hK K hbc
            refine wpAnyH_take (i := 4) (v := ?_) rfl (by kernel_rfl) (by kernel_rfl) (by kernel_rfl) (fun _ _ _ h => h) (Or.inl ⟨by rfl, ?_⟩) hS ?_
            rotate_left
            · intro V hV
              go_simp
              (try with_reducible rfl)
            simp only [Act.put]
            refine wpAnyH_take (i := 5) (v := ?_) rfl (by kernel_rfl) (by kernel_rfl) (by kernel_rfl) (fun _ _ _ h => h) (Or.inl ⟨by rfl, ?_⟩) hS ?_
            rotate_left
            · intro V hV
              go_simp
              (try with_reducible rfl)
            simp only [Act.put]
            refine wpAnyH_take (i := 6) (v := ?_) rfl (by kernel_rfl) (by kernel_rfl) (by kernel_rfl) (fun _ _ _ h => h) (Or.inl ⟨by rfl, ?_⟩) hS ?_
            rotate_left
            · intro V hV
              go_simp
              (try with_reducible rfl)
            simp only [Act.put]
            obtain ⟨a0, a1, a2, a3⟩ := cells4 hZ7
            have fa : ∀ o, U31.frozen? ⟨B7, o, none⟩ = false := fun o => blk_free hZ7
            refine wpAnyH_ready (rs := [9]) (by kernel_rfl) (by simp) (AllReadyH.cons rfl (fun K hK => ?_) AllReadyH.nil)
            go_simp
            have g7 := stored4 (z0 := .int .u64 q0) (z1 := .int .u64 q1) (z2 := .int .u64 q2) (z3 := .int .u64 q3) hZ7
            have hSB := below_stored4 (b := B7) (z0 := .int .u64 q0) (z1 := .int .u64 q1) (z2 := .int .u64 q2) (z3 := .int .u64 q3) hS hL7
            have o8 := (other4 (b := B7) (c := B8) (z0 := .int .u64 q0) (z1 := .int .u64 q1) (z2 := .int .u64 q2) (z3 := .int .u64 q3) (by first | exact hN87 | exact (hN87).symm | exact hN78 | exact (hN78).symm)).trans hZ8
            clear hZ8
            have hZ8 := o8
            clear o8
            generalize ((((U31.setCell ⟨B7, 0, none⟩ (.int .u64 q0)).setCell ⟨B7, 1, none⟩ (.int .u64 q1)).setCell ⟨B7, 2, none⟩ (.int .u64 q2)).setCell ⟨B7, 3, none⟩ (.int .u64 q3)) = U31x at g7 hSB hZ8 ⊢
            refine hK.out _ _ hSB (fun hS => ?_)
            clear hK K hSB a0 a1 a2 a3 fa hZ7
            obtain ⟨a0, a1, a2, a3⟩ := cells4 hZ8
            have fa : ∀ o, U31x.frozen? ⟨B8, o, none⟩ = false := fun o => blk_free hZ8
            refine wpAnyH_ready (rs := [10]) (by kernel_rfl) (by simp) (AllReadyH.cons rfl (fun K hK => ?_) AllReadyH.nil)
            go_simp
            have g8 := stored4 (z0 := .int .u64 r0) (z1 := .int .u64 r1) (z2 := .int .u64 r2) (z3 := .int .u64 r3) hZ8
            have hSB := below_stored4 (b := B8) (z0 := .int .u64 r0) (z1 := .int .u64 r1) (z2 := .int .u64 r2) (z3 := .int .u64 r3) hS hL8
            have o7 := (other4 (b := B8) (c := B7) (z0 := .int .u64 r0) (z1 := .int .u64 r1) (z2 := .int .u64 r2) (z3 := .int .u64 r3) (by first | exact hN78 | exact (hN78).symm | exact hN87 | exact (hN87).symm)).trans g7
            clear g7
            have g7 := o7
            clear o7
            generalize ((((U31x.setCell ⟨B8, 0, none⟩ (.int .u64 r0)).setCell ⟨B8, 1, none⟩ (.int .u64 r1)).setCell ⟨B8, 2, none⟩ (.int .u64 r2)).setCell ⟨B8, 3, none⟩ (.int .u64 r3)) = U31xx at g8 hSB g7 ⊢
            refine hK.out _ _ hSB (fun hS => wpAnyH_done (by kernel_rfl) ?_ _)
            clear hK K
            go_wp2_with fail
            go_meet
            exact ⟨B7, B8, rfl, rfl, g7, g8, hL7, hL8, hSB⟩
      · go_simp
        obtain ⟨B7, hBe⟩ : ∃ B7, B7 = U26.heap.size := ⟨_, rfl⟩
        have hZ7 : (U26.alloc (.cells #[.int .u64 0, .int .u64 0, .int .u64 0, .int .u64 0] 24)).heap[B7]? = some (.cells #[.int .u64 0, .int .u64 0, .int .u64 0, .int .u64 0] 24 (0, 0)) := by rw [hBe]; exact heap_new _ _
        have hL7 : W0.heap.size ≤ B7 := by rw [hBe]; exact hS.size
        have hSA : Below W0.heap.size W0 (U26.alloc (.cells #[.int .u64 0, .int .u64 0, .int .u64 0, .int .u64 0] 24)) := hS.alloc hS.size _
        have hY8 : (U26.alloc (.cells #[.int .u64 0, .int .u64 0, .int .u64 0, .int .u64 0] 24)).heap[B8]? = _ := (heap_old _ _ (Array.getElem?_eq_some_iff.1 hZ8).1).trans hZ8
        clear hZ8
        have hZ8 := hY8
        clear hY8
        have hN78 : B8 ≠ B7 := by rw [hBe]; exact Nat.ne_of_lt (hLT8)
        rw [← hBe]
        have hLT7 : B7 < (U26.alloc (.cells #[.int .u64 0, .int .u64 0, .int .u64 0, .int .u64 0] 24)).heap.size := (Array.getElem?_eq_some_iff.1 hZ7).1
        have hQ8 : B8 < (U26.alloc (.cells #[.int .u64 0, .int .u64 0, .int .u64 0, .int .u64 0] 24)).heap.size := (Array.getElem?_eq_some_iff.1 hZ8).1
        clear hLT8
        have hLT8 := hQ8
        clear hQ8
        generalize (U26.alloc (.cells #[.int .u64 0, .int .u64 0, .int .u64 0, .int .u64 0] 24)) = U32 at hZ7 hZ8 hSA hLT7 hLT8 ⊢
        refine hK.out _ _ hSA (fun hS => ?_)
        clear hK K hSA hBe
        refine wpAnyH_ready (rs := [2]) (by kernel_rfl) (by simp) ?_
        refine AllReadyH.cons rfl (fun K hK => ?_) AllReadyH.nil
        · go_simp
          refine (HOF.out _).mono ?_
          rintro e U33 ⟨rfl, hbc⟩
          refine hK.out _ _ (hS.trans (hbc.mono hS.size)) (fun hS => ?_)
          replace hZ8 := (hbc.block B8 (Array.getElem?_eq_some_iff.1 hZ8).1).trans hZ8
          replace hLT8 := (Array.getElem?_eq_some_iff.1 hZ8).1
          replace hZ7 := (hbc.block B7 (Array.getElem?_eq_some_iff.1 hZ7).1).trans hZ7
          replace hLT7 := (Array.getElem?_eq_some_iff.1 hZ7).1
          clear hK K hbc
          refine wpAnyH_ready (rs := [3]) (by kernel_rfl) (by simp) ?_
          refine AllReadyH.cons rfl (fun K hK => ?_) AllReadyH.nil
          · go_simp
            refine (HDV.out _).mono ?_
            rintro e U34 ⟨rfl, hbc⟩
            refine hK.out _ _ (hS.trans (hbc.mono hS.size)) (fun hS => ?_)
            replace hZ8 := (hbc.block B8 (Array.getElem?_eq_some_iff.1 hZ8).1).trans hZ8
            replace hLT8 := (Array.getElem?_eq_some_iff.1 hZ8).1
            replace hZ7 := (hbc.block B7 (Array.getElem?_eq_some_iff.1 hZ7).1).trans hZ7
            replace hLT7 := (Array.getElem?_eq_some_iff.1 hZ7).1
            clear hK K hbc
            refine wpAnyH_take (i := 4) (v := ?_) rfl (by kernel_rfl) (by kernel_rfl) (by kernel_rfl) (fun _ _ _ h => h) (Or.inl ⟨by rfl, ?_⟩) hS ?_
            rotate_left
            · intro V hV
              go_simp
              (try with_reducible rfl)
            simp only [Act.put]
            refine wpAnyH_take (i := 5) (v := ?_) rfl (by kernel_rfl) (by kernel_rfl) (by kernel_rfl) (fun _ _ _ h => h) (Or.inl ⟨by rfl, ?_⟩) hS ?_
            rotate_left
            · intro V hV
              go_simp
              (try with_reducible rfl)
            simp only [Act.put]
            refine wpAnyH_take (i := 6) (v := ?_) rfl (by kernel_rfl) (by kernel_rfl) (by kernel_rfl) (fun _ _ _ h => h) (Or.inl ⟨by rfl, ?_⟩) hS ?_
            rotate_left
            · intro V hV
              go_simp
              (try with_reducible rfl)
            simp only [Act.put]
            obtain ⟨a0, a1, a2, a3⟩ := cells4 hZ7
            have fa : ∀ o, U34.frozen? ⟨B7, o, none⟩ = false := fun o => blk_free hZ7
            refine wpAnyH_ready (rs := [9]) (by kernel_rfl) (by simp) (AllReadyH.cons rfl (fun K hK => ?_) AllReadyH.nil)
            go_simp
            have g7 := stored4 (z0 := .int .u64 q0) (z1 := .int .u64 q1) (z2 := .int .u64 q2) (z3 := .int .u64 q3) hZ7
            have hSB := below_stored4 (b := B7) (z0 := .int .u64 q0) (z1 := .int .u64 q1) (z2 := .int .u64 q2) (z3 := .int .u64 q3) hS hL7
            have o8 := (other4 (b := B7) (c := B8) (z0 := .int .u64 q0) (z1 := .int .u64 q1) (z2 := .int .u64 q2) (z3 := .int .u64 q3) (by first | exact hN87 | exact (hN87).symm | exact hN78 | exact (hN78).symm)).trans hZ8
            clear hZ8
            have hZ8 := o8
            clear o8
            generalize ((((U34.setCell ⟨B7, 0, none⟩ (.int .u64 q0)).setCell ⟨B7, 1, none⟩ (.int .u64 q1)).setCell ⟨B7, 2, none⟩ (.int .u64 q2)).setCell ⟨B7, 3, none⟩ (.int .u64 q3)) = U34x at g7 hSB hZ8 ⊢
            refine hK.out _ _ hSB (fun hS => ?_)
            clear hK K hSB a0 a1 a2 a3 fa hZ7
            obtain ⟨a0, a1, a2, a3⟩ := cells4 hZ8
            have fa : ∀ o, U34x.frozen? ⟨B8, o, none⟩ = false := fun o => blk_free hZ8
            refine wpAnyH_ready (rs := [10]) (by kernel_rfl) (by simp) (AllReadyH.cons rfl (fun K hK => ?_) AllReadyH.nil)
            go_simp
            have g8 := stored4 (z0 := .int .u64 r0) (z1 := .int .u64 r1) (z2 := .int .u64 r2) (z3 := .int .u64 r3) hZ8
            have hSB := below_stored4 (b := B8) (z0 := .int .u64 r0) (z1 := .int .u64 r1) (z2 := .int .u64 r2) (z3 := .int .u64 r3) hS hL8
            have o7 := (other4 (b := B8) (c := B7) (z0 := .int .u64 r0) (z1 := .int .u64 r1) (z2 := .int .u64 r2) (z3 := .int .u64 r3) (by first | exact hN78 | exact (hN78).symm | exact hN87 | exact (hN87).symm)).trans g7
            clear g7
            have g7 := o7
            clear o7
            generalize ((((U34x.setCell ⟨B8, 0, none⟩ (.int .u64 r0)).setCell ⟨B8, 1, none⟩ (.int .u64 r1)).setCell ⟨B8, 2, none⟩ (.int .u64 r2)).setCell ⟨B8, 3, none⟩ (.int .u64 r3)) = U34xx at g8 hSB g7 ⊢
            refine hK.out _ _ hSB (fun hS => wpAnyH_done (by kernel_rfl) ?_ _)
            clear hK K
            go_wp2_with fail
            go_meet
            exact ⟨B7, B8, rfl, rfl, g7, g8, hL7, hL8, hSB⟩
  case rest =>
    obtain ⟨B7, B8, rfl, rfl, h7, h8, hl7, hl8, hbb⟩ := hcut
    obtain ⟨rfl, rfl, rfl, rfl⟩ := HQ.out
    obtain ⟨rfl, rfl, rfl, rfl⟩ := HRR.out
    obtain ⟨a0, a1, a2, a3⟩ := cells4 h7
    obtain ⟨b0, b1, b2, b3⟩ := cells4 h8
    have hx := (hbb.block w.heap.size (Array.getElem?_eq_some_iff.1 HX.out).1).trans HX.out
    have ht := (hbb.block (w.heap.size + 1) (Array.getElem?_eq_some_iff.1 HT.out).1).trans HT.out
    obtain ⟨c0, c1, c2, c3⟩ := cells4 hx
    have fx : ∀ o, wc.frozen? ⟨w.heap.size, o, none⟩ = false := fun o => blk_free hx
    have t0 : wc.cell? ⟨w.heap.size + 1, 77, none⟩ = some (.int .u8 0) := blk_cell ht (by kernel_rfl)
    have ft : wc.frozen? ⟨w.heap.size + 1, 77, none⟩ = false := blk_free ht
    have hlt := (Array.getElem?_eq_some_iff.1 HT.out).1
    have m1 : ¬ (w.heap.size + 1 = B7) := by omega
    have m2 : ¬ (B7 = w.heap.size + 1) := by omega
    have m3 : ¬ (w.heap.size = B7) := by omega
    have m4 : ¬ (B7 = w.heap.size) := by omega
    have HX2 := hideP hx
    have HT2 := hideP ht
    have HB2 : Hid (Below w.heap.size w wc) := HB0.out.trans (hbb.mono HB0.out.size)
    clear HDV hx ht h7 h8 hl7 hl8 hbb hlt
    go_wp2_with fail
    have gx := stored4 (w1 := (wc.setCell ⟨w.heap.size + 1, 77, none⟩ (.int .u8 102))) (z0 := .int .u64 15) (z1 := .int .u64 0) (z2 := .int .u64 0) (z3 := .int .u64 0) ((Below.heap_setCell wc _ _ _ (by simp)).trans HX2.out)
    have gt := (other4 (w1 := (wc.setCell ⟨w.heap.size + 1, 77, none⟩ (.int .u8 102))) (b := w.heap.size) (c := w.heap.size + 1) (z0 := .int .u64 15) (z1 := .int .u64 0) (z2 := .int .u64 0) (z3 := .int .u64 0) (by omega)).trans (blk_set (o := 77) HT2.out (.int .u8 102))
    have gb := below_stored4 (w1 := (wc.setCell ⟨w.heap.size + 1, 77, none⟩ (.int .u8 102))) (b := w.heap.size) (z0 := .int .u64 15) (z1 := .int .u64 0) (z2 := .int .u64 0) (z3 := .int .u64 0) (HB2.out.setCell (p := ⟨w.heap.size + 1, 77, none⟩) (by simp) (.int .u8 102)) (Nat.le_refl _)
    clear a0 a1 a2 a3 b0 b1 b2 b3 c0 c1 c2 c3 fx t0 ft m1 m2 m3 m4 HX2 HT2 HB2 HX HT HB0 HQ HRR
    generalize (((((wc.setCell ⟨w.heap.size + 1, 77, none⟩ (.int .u8 102)).setCell ⟨w.heap.size, 0, none⟩ (.int .u64 15)).setCell ⟨w.heap.size, 1, none⟩ (.int .u64 0)).setCell ⟨w.heap.size, 2, none⟩ (.int .u64 0)).setCell ⟨w.heap.size, 3, none⟩ (.int .u64 0)) = W0 at gx gt gb ⊢
    have HX := hideP gx
    have HT := hideP gt
    have HB0 := hideP gb
    clear gx gt gb
    rw [rounds_succ]
    go_wp2_with fail
    obtain ⟨q0, q1, q2, q3, hq⟩ : ∃ q0 q1 q2 q3 : Int, q0 = 0 ∧ q1 = 0 ∧ q2 = 0 ∧ q3 = 0 := ⟨_, _, _, _, rfl, rfl, rfl, rfl⟩
    obtain ⟨r0, r1, r2, r3, hr⟩ : ∃ r0 r1 r2 r3 : Int, r0 = 15 ∧ r1 = 0 ∧ r2 = 0 ∧ r3 = 0 := ⟨_, _, _, _, rfl, rfl, rfl, rfl⟩
    have HDV : Hid (∀ W, Calls Try.prog 93 #[.agg #[.int .u64 15, .int .u64 0, .int .u64 0, .int .u64 0], .agg #[.int .u64 16, .int .u64 0, .int .u64 0, .int .u64 0]] W fun e w' => e = .returned (.tuple #[.agg #[.int .u64 q0, .int .u64 q1, .int .u64 q2, .int .u64 q3], .agg #[.int .u64 r0, .int .u64 r1, .int .u64 r2, .int .u64 r3]]) ∧ Below W.heap.size W w') := by
      rw [hq.1, hq.2.1, hq.2.2.1, hq.2.2.2, hr.1, hr.2.1, hr.2.2.1, hr.2.2.2]
      exact fun W => divide_15 W
    have HQ := hideP hq
    have HRR := hideP hr
    clear hq hr
    go_cut [8, 9] (fun p1 p2 wx => ∃ B7 B8 : Nat, p1 = .pointer (some ⟨B7, 0, none⟩) ∧ p2 = .pointer (some ⟨B8, 0, none⟩) ∧ wx.heap[B7]? = some (.cells #[.int .u64 q0, .int .u64 q1, .int .u64 q2, .int .u64 q3] 24 (0, 0)) ∧ wx.heap[B8]? = some (.cells #[.int .u64 r0, .int .u64 r1, .int .u64 r2, .int .u64 r3] 24 (0, 0)) ∧ W0.heap.size ≤ B7 ∧ W0.heap.size ≤ B8 ∧ Below W0.heap.size W0 wx)
    case first =>
      obtain ⟨cx0, cx1, cx2, cx3⟩ := cells4 HX.out
      have hlx := (Array.getElem?_eq_some_iff.1 HX.out).1
      refine wp_region_heldS (S := fun V => Below W0.heap.size W0 V) (by kernel_rfl) (Below.refl _ _).drew (fun hS => ?_)
      refine wpAnyH_take (i := 0) (v := ?_) rfl (by kernel_rfl) (by kernel_rfl) (by kernel_rfl) (fun _ _ _ h => h) (Or.inl ⟨by rfl, ?_⟩) hS ?_
      rotate_left
      · intro V hV
        have k0 := (hV.cell (p := ⟨w.heap.size, 0, none⟩) hlx).trans cx0
        have k1 := (hV.cell (p := ⟨w.heap.size, 1, none⟩) hlx).trans cx1
        have k2 := (hV.cell (p := ⟨w.heap.size, 2, none⟩) hlx).trans cx2
        have k3 := (hV.cell (p := ⟨w.heap.size, 3, none⟩) hlx).trans cx3
        go_simp
        (try with_reducible rfl)
      simp only [Act.put, List.setIfInBounds_toArray]
      refine wpAnyH_take (i := 1) (v := ?_) rfl (by kernel_rfl) (by kernel_rfl) (by kernel_rfl) (fun _ _ _ h => h) (Or.inl ⟨by rfl, ?_⟩) hS ?_
      rotate_left
      · intro V hV
        go_simp
        (try with_reducible rfl)
      simp only [Act.put]
      refine wpAnyH_ready (rs := [2, 7, 8]) (by kernel_rfl) (by simp) ?_
      refine AllReadyH.cons rfl (fun K hK => ?_) (AllReadyH.cons rfl (fun K hK => ?_) (AllReadyH.cons rfl (fun K hK => ?_) AllReadyH.nil))
      · go_simp
        refine (HOF.out _).mono ?_
        rintro e U1 ⟨rfl, hbc⟩
        refine hK.out _ _ (hS.trans (hbc.mono hS.size)) (fun hS => ?_)
        clear hK K hbc
        refine wpAnyH_ready (rs := [3, 7, 8]) (by kernel_rfl) (by simp) ?_
        refine AllReadyH.cons rfl (fun K hK => ?_) (AllReadyH.cons rfl (fun K hK => ?_) (AllReadyH.cons rfl (fun K hK => ?_) AllReadyH.nil))
        · go_simp
          refine (HDV.out _).mono ?_
          rintro e U2 ⟨rfl, hbc⟩
          refine hK.out _ _ (hS.trans (hbc.mono hS.size)) (fun hS => ?_)
          clear hK K hbc
          refine wpAnyH_take (i := 4) (v := ?_) rfl (by kernel_rfl) (by kernel_rfl) (by kernel_rfl) (fun _ _ _ h => h) (Or.inl ⟨by rfl, ?_⟩) hS ?_
          rotate_left
          · intro V hV
            go_simp
            (try with_reducible rfl)
          simp only [Act.put]
          refine wpAnyH_take (i := 5) (v := ?_) rfl (by kernel_rfl) (by kernel_rfl) (by kernel_rfl) (fun _ _ _ h => h) (Or.inl ⟨by rfl, ?_⟩) hS ?_
          rotate_left
          · intro V hV
            go_simp
            (try with_reducible rfl)
          simp only [Act.put]
          refine wpAnyH_take (i := 6) (v := ?_) rfl (by kernel_rfl) (by kernel_rfl) (by kernel_rfl) (fun _ _ _ h => h) (Or.inl ⟨by rfl, ?_⟩) hS ?_
          rotate_left
          · intro V hV
            go_simp
            (try with_reducible rfl)
          simp only [Act.put]
          refine wpAnyH_ready (rs := [7, 8]) (by kernel_rfl) (by simp) ?_
          refine AllReadyH.cons rfl (fun K hK => ?_) (AllReadyH.cons rfl (fun K hK => ?_) AllReadyH.nil)
          · go_simp
            obtain ⟨B7, hBe⟩ : ∃ B7, B7 = U2.heap.size := ⟨_, rfl⟩
            have hZ7 : (U2.alloc (.cells #[.int .u64 0, .int .u64 0, .int .u64 0, .int .u64 0] 24)).heap[B7]? = some (.cells #[.int .u64 0, .int .u64 0, .int .u64 0, .int .u64 0] 24 (0, 0)) := by rw [hBe]; exact heap_new _ _
            have hL7 : W0.heap.size ≤ B7 := by rw [hBe]; exact hS.size
            have hSA : Below W0.heap.size W0 (U2.alloc (.cells #[.int .u64 0, .int .u64 0, .int .u64 0, .int .u64 0] 24)) := hS.alloc hS.size _
            rw [← hBe]
            have hLT7 : B7 < (U2.alloc (.cells #[.int .u64 0, .int .u64 0, .int .u64 0, .int .u64 0] 24)).heap.size := (Array.getElem?_eq_some_iff.1 hZ7).1
            generalize (U2.alloc (.cells #[.int .u64 0, .int .u64 0, .int .u64 0, .int .u64 0] 24)) = U3 at hZ7  hSA hLT7  ⊢
            refine hK.out _ _ hSA (fun hS => ?_)
            clear hK K hSA hBe
            refine wpAnyH_ready (rs := [8]) (by kernel_rfl) (by simp) ?_
            refine AllReadyH.cons rfl (fun K hK => ?_) AllReadyH.nil
            · go_simp
              obtain ⟨B8, hBe⟩ : ∃ B8, B8 = U3.heap.size := ⟨_, rfl⟩
              have hZ8 : (U3.alloc (.cells #[.int .u64 0, .int .u64 0, .int .u64 0, .int .u64 0] 24)).heap[B8]? = some (.cells #[.int .u64 0, .int .u64 0, .int .u64 0, .int .u64 0] 24 (0, 0)) := by rw [hBe]; exact heap_new _ _
              have hL8 : W0.heap.size ≤ B8 := by rw [hBe]; exact hS.size
              have hSA : Below W0.heap.size W0 (U3.alloc (.cells #[.int .u64 0, .int .u64 0, .int .u64 0, .int .u64 0] 24)) := hS.alloc hS.size _
              have hY7 : (U3.alloc (.cells #[.int .u64 0, .int .u64 0, .int .u64 0, .int .u64 0] 24)).heap[B7]? = _ := (heap_old _ _ (Array.getElem?_eq_some_iff.1 hZ7).1).trans hZ7
              clear hZ7
              have hZ7 := hY7
              clear hY7
              have hN87 : B7 ≠ B8 := by rw [hBe]; exact Nat.ne_of_lt (hLT7)
              rw [← hBe]
              have hLT8 : B8 < (U3.alloc (.cells #[.int .u64 0, .int .u64 0, .int .u64 0, .int .u64 0] 24)).heap.size := (Array.getElem?_eq_some_iff.1 hZ8).1
              have hQ7 : B7 < (U3.alloc (.cells #[.int .u64 0, .int .u64 0, .int .u64 0, .int .u64 0] 24)).heap.size := (Array.getElem?_eq_some_iff.1 hZ7).1
              clear hLT7
              have hLT7 := hQ7
              clear hQ7
              generalize (U3.alloc (.cells #[.int .u64 0, .int .u64 0, .int .u64 0, .int .u64 0] 24)) = U4 at hZ8 hZ7 hSA hLT8 hLT7 ⊢
              refine hK.out _ _ hSA (fun hS => ?_)
              clear hK K hSA hBe
              obtain ⟨a0, a1, a2, a3⟩ := cells4 hZ7
              have fa : ∀ o, U4.frozen? ⟨B7, o, none⟩ = false := fun o => blk_free hZ7
              refine wpAnyH_ready (rs := [9]) (by kernel_rfl) (by simp) (AllReadyH.cons rfl (fun K hK => ?_) AllReadyH.nil)
              go_simp
              have g7 := stored4 (z0 := .int .u64 q0) (z1 := .int .u64 q1) (z2 := .int .u64 q2) (z3 := .int .u64 q3) hZ7
              have hSB := below_stored4 (b := B7) (z0 := .int .u64 q0) (z1 := .int .u64 q1) (z2 := .int .u64 q2) (z3 := .int .u64 q3) hS hL7
              have o8 := (other4 (b := B7) (c := B8) (z0 := .int .u64 q0) (z1 := .int .u64 q1) (z2 := .int .u64 q2) (z3 := .int .u64 q3) (by first | exact hN87 | exact (hN87).symm | exact hN78 | exact (hN78).symm)).trans hZ8
              clear hZ8
              have hZ8 := o8
              clear o8
              generalize ((((U4.setCell ⟨B7, 0, none⟩ (.int .u64 q0)).setCell ⟨B7, 1, none⟩ (.int .u64 q1)).setCell ⟨B7, 2, none⟩ (.int .u64 q2)).setCell ⟨B7, 3, none⟩ (.int .u64 q3)) = U4x at g7 hSB hZ8 ⊢
              refine hK.out _ _ hSB (fun hS => ?_)
              clear hK K hSB a0 a1 a2 a3 fa hZ7
              obtain ⟨a0, a1, a2, a3⟩ := cells4 hZ8
              have fa : ∀ o, U4x.frozen? ⟨B8, o, none⟩ = false := fun o => blk_free hZ8
              refine wpAnyH_ready (rs := [10]) (by kernel_rfl) (by simp) (AllReadyH.cons rfl (fun K hK => ?_) AllReadyH.nil)
              go_simp
              have g8 := stored4 (z0 := .int .u64 r0) (z1 := .int .u64 r1) (z2 := .int .u64 r2) (z3 := .int .u64 r3) hZ8
              have hSB := below_stored4 (b := B8) (z0 := .int .u64 r0) (z1 := .int .u64 r1) (z2 := .int .u64 r2) (z3 := .int .u64 r3) hS hL8
              have o7 := (other4 (b := B8) (c := B7) (z0 := .int .u64 r0) (z1 := .int .u64 r1) (z2 := .int .u64 r2) (z3 := .int .u64 r3) (by first | exact hN78 | exact (hN78).symm | exact hN87 | exact (hN87).symm)).trans g7
              clear g7
              have g7 := o7
              clear o7
              generalize ((((U4x.setCell ⟨B8, 0, none⟩ (.int .u64 r0)).setCell ⟨B8, 1, none⟩ (.int .u64 r1)).setCell ⟨B8, 2, none⟩ (.int .u64 r2)).setCell ⟨B8, 3, none⟩ (.int .u64 r3)) = U4xx at g8 hSB g7 ⊢
              refine hK.out _ _ hSB (fun hS => wpAnyH_done (by kernel_rfl) ?_ _)
              clear hK K
              go_wp2_with fail
              go_meet
              exact ⟨B7, B8, rfl, rfl, g7, g8, hL7, hL8, hSB⟩
          · go_simp
            obtain ⟨B8, hBe⟩ : ∃ B8, B8 = U2.heap.size := ⟨_, rfl⟩
            have hZ8 : (U2.alloc (.cells #[.int .u64 0, .int .u64 0, .int .u64 0, .int .u64 0] 24)).heap[B8]? = some (.cells #[.int .u64 0, .int .u64 0, .int .u64 0, .int .u64 0] 24 (0, 0)) := by rw [hBe]; exact heap_new _ _
            have hL8 : W0.heap.size ≤ B8 := by rw [hBe]; exact hS.size
            have hSA : Below W0.heap.size W0 (U2.alloc (.cells #[.int .u64 0, .int .u64 0, .int .u64 0, .int .u64 0] 24)) := hS.alloc hS.size _
            rw [← hBe]
            have hLT8 : B8 < (U2.alloc (.cells #[.int .u64 0, .int .u64 0, .int .u64 0, .int .u64 0] 24)).heap.size := (Array.getElem?_eq_some_iff.1 hZ8).1
            generalize (U2.alloc (.cells #[.int .u64 0, .int .u64 0, .int .u64 0, .int .u64 0] 24)) = U5 at hZ8  hSA hLT8  ⊢
            refine hK.out _ _ hSA (fun hS => ?_)
            clear hK K hSA hBe
            refine wpAnyH_ready (rs := [7]) (by kernel_rfl) (by simp) ?_
            refine AllReadyH.cons rfl (fun K hK => ?_) AllReadyH.nil
            · go_simp
              obtain ⟨B7, hBe⟩ : ∃ B7, B7 = U5.heap.size := ⟨_, rfl⟩
              have hZ7 : (U5.alloc (.cells #[.int .u64 0, .int .u64 0, .int .u64 0, .int .u64 0] 24)).heap[B7]? = some (.cells #[.int .u64 0, .int .u64 0, .int .u64 0, .int .u64 0] 24 (0, 0)) := by rw [hBe]; exact heap_new _ _
              have hL7 : W0.heap.size ≤ B7 := by rw [hBe]; exact hS.size
              have hSA : Below W0.heap.size W0 (U5.alloc (.cells #[.int .u64 0, .int .u64 0, .int .u64 0, .int .u64 0] 24)) := hS.alloc hS.size _
              have hY8 : (U5.alloc (.cells #[.int .u64 0, .int .u64 0, .int .u64 0, .int .u64 0] 24)).heap[B8]? = _ := (heap_old _ _ (Array.getElem?_eq_some_iff.1 hZ8).1).trans hZ8
              clear hZ8
              have hZ8 := hY8
              clear hY8
              have hN78 : B8 ≠ B7 := by rw [hBe]; exact Nat.ne_of_lt (hLT8)
              rw [← hBe]
              have hLT7 : B7 < (U5.alloc (.cells #[.int .u64 0, .int .u64 0, .int .u64 0, .int .u64 0] 24)).heap.size := (Array.getElem?_eq_some_iff.1 hZ7).1
              have hQ8 : B8 < (U5.alloc (.cells #[.int .u64 0, .int .u64 0, .int .u64 0, .int .u64 0] 24)).heap.size := (Array.getElem?_eq_some_iff.1 hZ8).1
              clear hLT8
              have hLT8 := hQ8
              clear hQ8
              generalize (U5.alloc (.cells #[.int .u64 0, .int .u64 0, .int .u64 0, .int .u64 0] 24)) = U6 at hZ7 hZ8 hSA hLT7 hLT8 ⊢
              refine hK.out _ _ hSA (fun hS => ?_)
              clear hK K hSA hBe
              obtain ⟨a0, a1, a2, a3⟩ := cells4 hZ7
              have fa : ∀ o, U6.frozen? ⟨B7, o, none⟩ = false := fun o => blk_free hZ7
              refine wpAnyH_ready (rs := [9]) (by kernel_rfl) (by simp) (AllReadyH.cons rfl (fun K hK => ?_) AllReadyH.nil)
              go_simp
              have g7 := stored4 (z0 := .int .u64 q0) (z1 := .int .u64 q1) (z2 := .int .u64 q2) (z3 := .int .u64 q3) hZ7
              have hSB := below_stored4 (b := B7) (z0 := .int .u64 q0) (z1 := .int .u64 q1) (z2 := .int .u64 q2) (z3 := .int .u64 q3) hS hL7
              have o8 := (other4 (b := B7) (c := B8) (z0 := .int .u64 q0) (z1 := .int .u64 q1) (z2 := .int .u64 q2) (z3 := .int .u64 q3) (by first | exact hN87 | exact (hN87).symm | exact hN78 | exact (hN78).symm)).trans hZ8
              clear hZ8
              have hZ8 := o8
              clear o8
              generalize ((((U6.setCell ⟨B7, 0, none⟩ (.int .u64 q0)).setCell ⟨B7, 1, none⟩ (.int .u64 q1)).setCell ⟨B7, 2, none⟩ (.int .u64 q2)).setCell ⟨B7, 3, none⟩ (.int .u64 q3)) = U6x at g7 hSB hZ8 ⊢
              refine hK.out _ _ hSB (fun hS => ?_)
              clear hK K hSB a0 a1 a2 a3 fa hZ7
              obtain ⟨a0, a1, a2, a3⟩ := cells4 hZ8
              have fa : ∀ o, U6x.frozen? ⟨B8, o, none⟩ = false := fun o => blk_free hZ8
              refine wpAnyH_ready (rs := [10]) (by kernel_rfl) (by simp) (AllReadyH.cons rfl (fun K hK => ?_) AllReadyH.nil)
              go_simp
              have g8 := stored4 (z0 := .int .u64 r0) (z1 := .int .u64 r1) (z2 := .int .u64 r2) (z3 := .int .u64 r3) hZ8
              have hSB := below_stored4 (b := B8) (z0 := .int .u64 r0) (z1 := .int .u64 r1) (z2 := .int .u64 r2) (z3 := .int .u64 r3) hS hL8
              have o7 := (other4 (b := B8) (c := B7) (z0 := .int .u64 r0) (z1 := .int .u64 r1) (z2 := .int .u64 r2) (z3 := .int .u64 r3) (by first | exact hN78 | exact (hN78).symm | exact hN87 | exact (hN87).symm)).trans g7
              clear g7
              have g7 := o7
              clear o7
              generalize ((((U6x.setCell ⟨B8, 0, none⟩ (.int .u64 r0)).setCell ⟨B8, 1, none⟩ (.int .u64 r1)).setCell ⟨B8, 2, none⟩ (.int .u64 r2)).setCell ⟨B8, 3, none⟩ (.int .u64 r3)) = U6xx at g8 hSB g7 ⊢
              refine hK.out _ _ hSB (fun hS => wpAnyH_done (by kernel_rfl) ?_ _)
              clear hK K
              go_wp2_with fail
              go_meet
              exact ⟨B7, B8, rfl, rfl, g7, g8, hL7, hL8, hSB⟩
        · go_simp
          obtain ⟨B7, hBe⟩ : ∃ B7, B7 = U1.heap.size := ⟨_, rfl⟩
          have hZ7 : (U1.alloc (.cells #[.int .u64 0, .int .u64 0, .int .u64 0, .int .u64 0] 24)).heap[B7]? = some (.cells #[.int .u64 0, .int .u64 0, .int .u64 0, .int .u64 0] 24 (0, 0)) := by rw [hBe]; exact heap_new _ _
          have hL7 : W0.heap.size ≤ B7 := by rw [hBe]; exact hS.size
          have hSA : Below W0.heap.size W0 (U1.alloc (.cells #[.int .u64 0, .int .u64 0, .int .u64 0, .int .u64 0] 24)) := hS.alloc hS.size _
          rw [← hBe]
          have hLT7 : B7 < (U1.alloc (.cells #[.int .u64 0, .int .u64 0, .int .u64 0, .int .u64 0] 24)).heap.size := (Array.getElem?_eq_some_iff.1 hZ7).1
          generalize (U1.alloc (.cells #[.int .u64 0, .int .u64 0, .int .u64 0, .int .u64 0] 24)) = U7 at hZ7  hSA hLT7  ⊢
          refine hK.out _ _ hSA (fun hS => ?_)
          clear hK K hSA hBe
          refine wpAnyH_ready (rs := [3, 8]) (by kernel_rfl) (by simp) ?_
          refine AllReadyH.cons rfl (fun K hK => ?_) (AllReadyH.cons rfl (fun K hK => ?_) AllReadyH.nil)
          · go_simp
            refine (HDV.out _).mono ?_
            rintro e U8 ⟨rfl, hbc⟩
            refine hK.out _ _ (hS.trans (hbc.mono hS.size)) (fun hS => ?_)
            replace hZ7 := (hbc.block B7 (Array.getElem?_eq_some_iff.1 hZ7).1).trans hZ7
            replace hLT7 := (Array.getElem?_eq_some_iff.1 hZ7).1
            clear hK K hbc
            refine wpAnyH_take (i := 4) (v := ?_) rfl (by kernel_rfl) (by kernel_rfl) (by kernel_rfl) (fun _ _ _ h => h) (Or.inl ⟨by rfl, ?_⟩) hS ?_
            rotate_left
            · intro V hV
              go_simp
              (try with_reducible rfl)
            simp only [Act.put]
            refine wpAnyH_take (i := 5) (v := ?_) rfl (by kernel_rfl) (by kernel_rfl) (by kernel_rfl) (fun _ _ _ h => h) (Or.inl ⟨by rfl, ?_⟩) hS ?_
            rotate_left
            · intro V hV
              go_simp
              (try with_reducible rfl)
            simp only [Act.put]
            refine wpAnyH_take (i := 6) (v := ?_) rfl (by kernel_rfl) (by kernel_rfl) (by kernel_rfl) (fun _ _ _ h => h) (Or.inl ⟨by rfl, ?_⟩) hS ?_
            rotate_left
            · intro V hV
              go_simp
              (try with_reducible rfl)
            simp only [Act.put]
            refine wpAnyH_ready (rs := [8]) (by kernel_rfl) (by simp) ?_
            refine AllReadyH.cons rfl (fun K hK => ?_) AllReadyH.nil
            · go_simp
              obtain ⟨B8, hBe⟩ : ∃ B8, B8 = U8.heap.size := ⟨_, rfl⟩
              have hZ8 : (U8.alloc (.cells #[.int .u64 0, .int .u64 0, .int .u64 0, .int .u64 0] 24)).heap[B8]? = some (.cells #[.int .u64 0, .int .u64 0, .int .u64 0, .int .u64 0] 24 (0, 0)) := by rw [hBe]; exact heap_new _ _
              have hL8 : W0.heap.size ≤ B8 := by rw [hBe]; exact hS.size
              have hSA : Below W0.heap.size W0 (U8.alloc (.cells #[.int .u64 0, .int .u64 0, .int .u64 0, .int .u64 0] 24)) := hS.alloc hS.size _
              have hY7 : (U8.alloc (.cells #[.int .u64 0, .int .u64 0, .int .u64 0, .int .u64 0] 24)).heap[B7]? = _ := (heap_old _ _ (Array.getElem?_eq_some_iff.1 hZ7).1).trans hZ7
              clear hZ7
              have hZ7 := hY7
              clear hY7
              have hN87 : B7 ≠ B8 := by rw [hBe]; exact Nat.ne_of_lt (hLT7)
              rw [← hBe]
              have hLT8 : B8 < (U8.alloc (.cells #[.int .u64 0, .int .u64 0, .int .u64 0, .int .u64 0] 24)).heap.size := (Array.getElem?_eq_some_iff.1 hZ8).1
              have hQ7 : B7 < (U8.alloc (.cells #[.int .u64 0, .int .u64 0, .int .u64 0, .int .u64 0] 24)).heap.size := (Array.getElem?_eq_some_iff.1 hZ7).1
              clear hLT7
              have hLT7 := hQ7
              clear hQ7
              generalize (U8.alloc (.cells #[.int .u64 0, .int .u64 0, .int .u64 0, .int .u64 0] 24)) = U9 at hZ8 hZ7 hSA hLT8 hLT7 ⊢
              refine hK.out _ _ hSA (fun hS => ?_)
              clear hK K hSA hBe
              obtain ⟨a0, a1, a2, a3⟩ := cells4 hZ7
              have fa : ∀ o, U9.frozen? ⟨B7, o, none⟩ = false := fun o => blk_free hZ7
              refine wpAnyH_ready (rs := [9]) (by kernel_rfl) (by simp) (AllReadyH.cons rfl (fun K hK => ?_) AllReadyH.nil)
              go_simp
              have g7 := stored4 (z0 := .int .u64 q0) (z1 := .int .u64 q1) (z2 := .int .u64 q2) (z3 := .int .u64 q3) hZ7
              have hSB := below_stored4 (b := B7) (z0 := .int .u64 q0) (z1 := .int .u64 q1) (z2 := .int .u64 q2) (z3 := .int .u64 q3) hS hL7
              have o8 := (other4 (b := B7) (c := B8) (z0 := .int .u64 q0) (z1 := .int .u64 q1) (z2 := .int .u64 q2) (z3 := .int .u64 q3) (by first | exact hN87 | exact (hN87).symm | exact hN78 | exact (hN78).symm)).trans hZ8
              clear hZ8
              have hZ8 := o8
              clear o8
              generalize ((((U9.setCell ⟨B7, 0, none⟩ (.int .u64 q0)).setCell ⟨B7, 1, none⟩ (.int .u64 q1)).setCell ⟨B7, 2, none⟩ (.int .u64 q2)).setCell ⟨B7, 3, none⟩ (.int .u64 q3)) = U9x at g7 hSB hZ8 ⊢
              refine hK.out _ _ hSB (fun hS => ?_)
              clear hK K hSB a0 a1 a2 a3 fa hZ7
              obtain ⟨a0, a1, a2, a3⟩ := cells4 hZ8
              have fa : ∀ o, U9x.frozen? ⟨B8, o, none⟩ = false := fun o => blk_free hZ8
              refine wpAnyH_ready (rs := [10]) (by kernel_rfl) (by simp) (AllReadyH.cons rfl (fun K hK => ?_) AllReadyH.nil)
              go_simp
              have g8 := stored4 (z0 := .int .u64 r0) (z1 := .int .u64 r1) (z2 := .int .u64 r2) (z3 := .int .u64 r3) hZ8
              have hSB := below_stored4 (b := B8) (z0 := .int .u64 r0) (z1 := .int .u64 r1) (z2 := .int .u64 r2) (z3 := .int .u64 r3) hS hL8
              have o7 := (other4 (b := B8) (c := B7) (z0 := .int .u64 r0) (z1 := .int .u64 r1) (z2 := .int .u64 r2) (z3 := .int .u64 r3) (by first | exact hN78 | exact (hN78).symm | exact hN87 | exact (hN87).symm)).trans g7
              clear g7
              have g7 := o7
              clear o7
              generalize ((((U9x.setCell ⟨B8, 0, none⟩ (.int .u64 r0)).setCell ⟨B8, 1, none⟩ (.int .u64 r1)).setCell ⟨B8, 2, none⟩ (.int .u64 r2)).setCell ⟨B8, 3, none⟩ (.int .u64 r3)) = U9xx at g8 hSB g7 ⊢
              refine hK.out _ _ hSB (fun hS => wpAnyH_done (by kernel_rfl) ?_ _)
              clear hK K
              go_wp2_with fail
              go_meet
              exact ⟨B7, B8, rfl, rfl, g7, g8, hL7, hL8, hSB⟩
          · go_simp
            obtain ⟨B8, hBe⟩ : ∃ B8, B8 = U7.heap.size := ⟨_, rfl⟩
            have hZ8 : (U7.alloc (.cells #[.int .u64 0, .int .u64 0, .int .u64 0, .int .u64 0] 24)).heap[B8]? = some (.cells #[.int .u64 0, .int .u64 0, .int .u64 0, .int .u64 0] 24 (0, 0)) := by rw [hBe]; exact heap_new _ _
            have hL8 : W0.heap.size ≤ B8 := by rw [hBe]; exact hS.size
            have hSA : Below W0.heap.size W0 (U7.alloc (.cells #[.int .u64 0, .int .u64 0, .int .u64 0, .int .u64 0] 24)) := hS.alloc hS.size _
            have hY7 : (U7.alloc (.cells #[.int .u64 0, .int .u64 0, .int .u64 0, .int .u64 0] 24)).heap[B7]? = _ := (heap_old _ _ (Array.getElem?_eq_some_iff.1 hZ7).1).trans hZ7
            clear hZ7
            have hZ7 := hY7
            clear hY7
            have hN87 : B7 ≠ B8 := by rw [hBe]; exact Nat.ne_of_lt (hLT7)
            rw [← hBe]
            have hLT8 : B8 < (U7.alloc (.cells #[.int .u64 0, .int .u64 0, .int .u64 0, .int .u64 0] 24)).heap.size := (Array.getElem?_eq_some_iff.1 hZ8).1
            have hQ7 : B7 < (U7.alloc (.cells #[.int .u64 0, .int .u64 0, .int .u64 0, .int .u64 0] 24)).heap.size := (Array.getElem?_eq_some_iff.1 hZ7).1
            clear hLT7
            have hLT7 := hQ7
            clear hQ7
            generalize (U7.alloc (.cells #[.int .u64 0, .int .u64 0, .int .u64 0, .int .u64 0] 24)) = U10 at hZ8 hZ7 hSA hLT8 hLT7 ⊢
            refine hK.out _ _ hSA (fun hS => ?_)
            clear hK K hSA hBe
            refine wpAnyH_ready (rs := [3]) (by kernel_rfl) (by simp) ?_
            refine AllReadyH.cons rfl (fun K hK => ?_) AllReadyH.nil
            · go_simp
              refine (HDV.out _).mono ?_
              rintro e U11 ⟨rfl, hbc⟩
              refine hK.out _ _ (hS.trans (hbc.mono hS.size)) (fun hS => ?_)
              replace hZ7 := (hbc.block B7 (Array.getElem?_eq_some_iff.1 hZ7).1).trans hZ7
              replace hLT7 := (Array.getElem?_eq_some_iff.1 hZ7).1
              replace hZ8 := (hbc.block B8 (Array.getElem?_eq_some_iff.1 hZ8).1).trans hZ8
              replace hLT8 := (Array.getElem?_eq_some_iff.1 hZ8).1
              clear hK K hbc
              refine wpAnyH_take (i := 4) (v := ?_) rfl (by kernel_rfl) (by kernel_rfl) (by kernel_rfl) (fun _ _ _ h => h) (Or.inl ⟨by rfl, ?_⟩) hS ?_
              rotate_left
              · intro V hV
                go_simp
                (try with_reducible rfl)
              simp only [Act.put]
              refine wpAnyH_take (i := 5) (v := ?_) rfl (by kernel_rfl) (by kernel_rfl) (by kernel_rfl) (fun _ _ _ h => h) (Or.inl ⟨by rfl, ?_⟩) hS ?_
              rotate_left
              · intro V hV
                go_simp
                (try with_reducible rfl)
              simp only [Act.put]
              refine wpAnyH_take (i := 6) (v := ?_) rfl (by kernel_rfl) (by kernel_rfl) (by kernel_rfl) (fun _ _ _ h => h) (Or.inl ⟨by rfl, ?_⟩) hS ?_
              rotate_left
              · intro V hV
                go_simp
                (try with_reducible rfl)
              simp only [Act.put]
              obtain ⟨a0, a1, a2, a3⟩ := cells4 hZ7
              have fa : ∀ o, U11.frozen? ⟨B7, o, none⟩ = false := fun o => blk_free hZ7
              refine wpAnyH_ready (rs := [9]) (by kernel_rfl) (by simp) (AllReadyH.cons rfl (fun K hK => ?_) AllReadyH.nil)
              go_simp
              have g7 := stored4 (z0 := .int .u64 q0) (z1 := .int .u64 q1) (z2 := .int .u64 q2) (z3 := .int .u64 q3) hZ7
              have hSB := below_stored4 (b := B7) (z0 := .int .u64 q0) (z1 := .int .u64 q1) (z2 := .int .u64 q2) (z3 := .int .u64 q3) hS hL7
              have o8 := (other4 (b := B7) (c := B8) (z0 := .int .u64 q0) (z1 := .int .u64 q1) (z2 := .int .u64 q2) (z3 := .int .u64 q3) (by first | exact hN87 | exact (hN87).symm | exact hN78 | exact (hN78).symm)).trans hZ8
              clear hZ8
              have hZ8 := o8
              clear o8
              generalize ((((U11.setCell ⟨B7, 0, none⟩ (.int .u64 q0)).setCell ⟨B7, 1, none⟩ (.int .u64 q1)).setCell ⟨B7, 2, none⟩ (.int .u64 q2)).setCell ⟨B7, 3, none⟩ (.int .u64 q3)) = U11x at g7 hSB hZ8 ⊢
              refine hK.out _ _ hSB (fun hS => ?_)
              clear hK K hSB a0 a1 a2 a3 fa hZ7
              obtain ⟨a0, a1, a2, a3⟩ := cells4 hZ8
              have fa : ∀ o, U11x.frozen? ⟨B8, o, none⟩ = false := fun o => blk_free hZ8
              refine wpAnyH_ready (rs := [10]) (by kernel_rfl) (by simp) (AllReadyH.cons rfl (fun K hK => ?_) AllReadyH.nil)
              go_simp
              have g8 := stored4 (z0 := .int .u64 r0) (z1 := .int .u64 r1) (z2 := .int .u64 r2) (z3 := .int .u64 r3) hZ8
              have hSB := below_stored4 (b := B8) (z0 := .int .u64 r0) (z1 := .int .u64 r1) (z2 := .int .u64 r2) (z3 := .int .u64 r3) hS hL8
              have o7 := (other4 (b := B8) (c := B7) (z0 := .int .u64 r0) (z1 := .int .u64 r1) (z2 := .int .u64 r2) (z3 := .int .u64 r3) (by first | exact hN78 | exact (hN78).symm | exact hN87 | exact (hN87).symm)).trans g7
              clear g7
              have g7 := o7
              clear o7
              generalize ((((U11x.setCell ⟨B8, 0, none⟩ (.int .u64 r0)).setCell ⟨B8, 1, none⟩ (.int .u64 r1)).setCell ⟨B8, 2, none⟩ (.int .u64 r2)).setCell ⟨B8, 3, none⟩ (.int .u64 r3)) = U11xx at g8 hSB g7 ⊢
              refine hK.out _ _ hSB (fun hS => wpAnyH_done (by kernel_rfl) ?_ _)
              clear hK K
              go_wp2_with fail
              go_meet
              exact ⟨B7, B8, rfl, rfl, g7, g8, hL7, hL8, hSB⟩
        · go_simp
          obtain ⟨B8, hBe⟩ : ∃ B8, B8 = U1.heap.size := ⟨_, rfl⟩
          have hZ8 : (U1.alloc (.cells #[.int .u64 0, .int .u64 0, .int .u64 0, .int .u64 0] 24)).heap[B8]? = some (.cells #[.int .u64 0, .int .u64 0, .int .u64 0, .int .u64 0] 24 (0, 0)) := by rw [hBe]; exact heap_new _ _
          have hL8 : W0.heap.size ≤ B8 := by rw [hBe]; exact hS.size
          have hSA : Below W0.heap.size W0 (U1.alloc (.cells #[.int .u64 0, .int .u64 0, .int .u64 0, .int .u64 0] 24)) := hS.alloc hS.size _
          rw [← hBe]
          have hLT8 : B8 < (U1.alloc (.cells #[.int .u64 0, .int .u64 0, .int .u64 0, .int .u64 0] 24)).heap.size := (Array.getElem?_eq_some_iff.1 hZ8).1
          generalize (U1.alloc (.cells #[.int .u64 0, .int .u64 0, .int .u64 0, .int .u64 0] 24)) = U12 at hZ8  hSA hLT8  ⊢
          refine hK.out _ _ hSA (fun hS => ?_)
          clear hK K hSA hBe
          refine wpAnyH_ready (rs := [3, 7]) (by kernel_rfl) (by simp) ?_
          refine AllReadyH.cons rfl (fun K hK => ?_) (AllReadyH.cons rfl (fun K hK => ?_) AllReadyH.nil)
          · go_simp
            refine (HDV.out _).mono ?_
            rintro e U13 ⟨rfl, hbc⟩
            refine hK.out _ _ (hS.trans (hbc.mono hS.size)) (fun hS => ?_)
            replace hZ8 := (hbc.block B8 (Array.getElem?_eq_some_iff.1 hZ8).1).trans hZ8
            replace hLT8 := (Array.getElem?_eq_some_iff.1 hZ8).1
            clear hK K hbc
            refine wpAnyH_take (i := 4) (v := ?_) rfl (by kernel_rfl) (by kernel_rfl) (by kernel_rfl) (fun _ _ _ h => h) (Or.inl ⟨by rfl, ?_⟩) hS ?_
            rotate_left
            · intro V hV
              go_simp
              (try with_reducible rfl)
            simp only [Act.put]
            refine wpAnyH_take (i := 5) (v := ?_) rfl (by kernel_rfl) (by kernel_rfl) (by kernel_rfl) (fun _ _ _ h => h) (Or.inl ⟨by rfl, ?_⟩) hS ?_
            rotate_left
            · intro V hV
              go_simp
              (try with_reducible rfl)
            simp only [Act.put]
            refine wpAnyH_take (i := 6) (v := ?_) rfl (by kernel_rfl) (by kernel_rfl) (by kernel_rfl) (fun _ _ _ h => h) (Or.inl ⟨by rfl, ?_⟩) hS ?_
            rotate_left
            · intro V hV
              go_simp
              (try with_reducible rfl)
            simp only [Act.put]
            refine wpAnyH_ready (rs := [7]) (by kernel_rfl) (by simp) ?_
            refine AllReadyH.cons rfl (fun K hK => ?_) AllReadyH.nil
            · go_simp
              obtain ⟨B7, hBe⟩ : ∃ B7, B7 = U13.heap.size := ⟨_, rfl⟩
              have hZ7 : (U13.alloc (.cells #[.int .u64 0, .int .u64 0, .int .u64 0, .int .u64 0] 24)).heap[B7]? = some (.cells #[.int .u64 0, .int .u64 0, .int .u64 0, .int .u64 0] 24 (0, 0)) := by rw [hBe]; exact heap_new _ _
              have hL7 : W0.heap.size ≤ B7 := by rw [hBe]; exact hS.size
              have hSA : Below W0.heap.size W0 (U13.alloc (.cells #[.int .u64 0, .int .u64 0, .int .u64 0, .int .u64 0] 24)) := hS.alloc hS.size _
              have hY8 : (U13.alloc (.cells #[.int .u64 0, .int .u64 0, .int .u64 0, .int .u64 0] 24)).heap[B8]? = _ := (heap_old _ _ (Array.getElem?_eq_some_iff.1 hZ8).1).trans hZ8
              clear hZ8
              have hZ8 := hY8
              clear hY8
              have hN78 : B8 ≠ B7 := by rw [hBe]; exact Nat.ne_of_lt (hLT8)
              rw [← hBe]
              have hLT7 : B7 < (U13.alloc (.cells #[.int .u64 0, .int .u64 0, .int .u64 0, .int .u64 0] 24)).heap.size := (Array.getElem?_eq_some_iff.1 hZ7).1
              have hQ8 : B8 < (U13.alloc (.cells #[.int .u64 0, .int .u64 0, .int .u64 0, .int .u64 0] 24)).heap.size := (Array.getElem?_eq_some_iff.1 hZ8).1
              clear hLT8
              have hLT8 := hQ8
              clear hQ8
              generalize (U13.alloc (.cells #[.int .u64 0, .int .u64 0, .int .u64 0, .int .u64 0] 24)) = U14 at hZ7 hZ8 hSA hLT7 hLT8 ⊢
              refine hK.out _ _ hSA (fun hS => ?_)
              clear hK K hSA hBe
              obtain ⟨a0, a1, a2, a3⟩ := cells4 hZ7
              have fa : ∀ o, U14.frozen? ⟨B7, o, none⟩ = false := fun o => blk_free hZ7
              refine wpAnyH_ready (rs := [9]) (by kernel_rfl) (by simp) (AllReadyH.cons rfl (fun K hK => ?_) AllReadyH.nil)
              go_simp
              have g7 := stored4 (z0 := .int .u64 q0) (z1 := .int .u64 q1) (z2 := .int .u64 q2) (z3 := .int .u64 q3) hZ7
              have hSB := below_stored4 (b := B7) (z0 := .int .u64 q0) (z1 := .int .u64 q1) (z2 := .int .u64 q2) (z3 := .int .u64 q3) hS hL7
              have o8 := (other4 (b := B7) (c := B8) (z0 := .int .u64 q0) (z1 := .int .u64 q1) (z2 := .int .u64 q2) (z3 := .int .u64 q3) (by first | exact hN87 | exact (hN87).symm | exact hN78 | exact (hN78).symm)).trans hZ8
              clear hZ8
              have hZ8 := o8
              clear o8
              generalize ((((U14.setCell ⟨B7, 0, none⟩ (.int .u64 q0)).setCell ⟨B7, 1, none⟩ (.int .u64 q1)).setCell ⟨B7, 2, none⟩ (.int .u64 q2)).setCell ⟨B7, 3, none⟩ (.int .u64 q3)) = U14x at g7 hSB hZ8 ⊢
              refine hK.out _ _ hSB (fun hS => ?_)
              clear hK K hSB a0 a1 a2 a3 fa hZ7
              obtain ⟨a0, a1, a2, a3⟩ := cells4 hZ8
              have fa : ∀ o, U14x.frozen? ⟨B8, o, none⟩ = false := fun o => blk_free hZ8
              refine wpAnyH_ready (rs := [10]) (by kernel_rfl) (by simp) (AllReadyH.cons rfl (fun K hK => ?_) AllReadyH.nil)
              go_simp
              have g8 := stored4 (z0 := .int .u64 r0) (z1 := .int .u64 r1) (z2 := .int .u64 r2) (z3 := .int .u64 r3) hZ8
              have hSB := below_stored4 (b := B8) (z0 := .int .u64 r0) (z1 := .int .u64 r1) (z2 := .int .u64 r2) (z3 := .int .u64 r3) hS hL8
              have o7 := (other4 (b := B8) (c := B7) (z0 := .int .u64 r0) (z1 := .int .u64 r1) (z2 := .int .u64 r2) (z3 := .int .u64 r3) (by first | exact hN78 | exact (hN78).symm | exact hN87 | exact (hN87).symm)).trans g7
              clear g7
              have g7 := o7
              clear o7
              generalize ((((U14x.setCell ⟨B8, 0, none⟩ (.int .u64 r0)).setCell ⟨B8, 1, none⟩ (.int .u64 r1)).setCell ⟨B8, 2, none⟩ (.int .u64 r2)).setCell ⟨B8, 3, none⟩ (.int .u64 r3)) = U14xx at g8 hSB g7 ⊢
              refine hK.out _ _ hSB (fun hS => wpAnyH_done (by kernel_rfl) ?_ _)
              clear hK K
              go_wp2_with fail
              go_meet
              exact ⟨B7, B8, rfl, rfl, g7, g8, hL7, hL8, hSB⟩
          · go_simp
            obtain ⟨B7, hBe⟩ : ∃ B7, B7 = U12.heap.size := ⟨_, rfl⟩
            have hZ7 : (U12.alloc (.cells #[.int .u64 0, .int .u64 0, .int .u64 0, .int .u64 0] 24)).heap[B7]? = some (.cells #[.int .u64 0, .int .u64 0, .int .u64 0, .int .u64 0] 24 (0, 0)) := by rw [hBe]; exact heap_new _ _
            have hL7 : W0.heap.size ≤ B7 := by rw [hBe]; exact hS.size
            have hSA : Below W0.heap.size W0 (U12.alloc (.cells #[.int .u64 0, .int .u64 0, .int .u64 0, .int .u64 0] 24)) := hS.alloc hS.size _
            have hY8 : (U12.alloc (.cells #[.int .u64 0, .int .u64 0, .int .u64 0, .int .u64 0] 24)).heap[B8]? = _ := (heap_old _ _ (Array.getElem?_eq_some_iff.1 hZ8).1).trans hZ8
            clear hZ8
            have hZ8 := hY8
            clear hY8
            have hN78 : B8 ≠ B7 := by rw [hBe]; exact Nat.ne_of_lt (hLT8)
            rw [← hBe]
            have hLT7 : B7 < (U12.alloc (.cells #[.int .u64 0, .int .u64 0, .int .u64 0, .int .u64 0] 24)).heap.size := (Array.getElem?_eq_some_iff.1 hZ7).1
            have hQ8 : B8 < (U12.alloc (.cells #[.int .u64 0, .int .u64 0, .int .u64 0, .int .u64 0] 24)).heap.size := (Array.getElem?_eq_some_iff.1 hZ8).1
            clear hLT8
            have hLT8 := hQ8
            clear hQ8
            generalize (U12.alloc (.cells #[.int .u64 0, .int .u64 0, .int .u64 0, .int .u64 0] 24)) = U15 at hZ7 hZ8 hSA hLT7 hLT8 ⊢
            refine hK.out _ _ hSA (fun hS => ?_)
            clear hK K hSA hBe
            refine wpAnyH_ready (rs := [3]) (by kernel_rfl) (by simp) ?_
            refine AllReadyH.cons rfl (fun K hK => ?_) AllReadyH.nil
            · go_simp
              refine (HDV.out _).mono ?_
              rintro e U16 ⟨rfl, hbc⟩
              refine hK.out _ _ (hS.trans (hbc.mono hS.size)) (fun hS => ?_)
              replace hZ8 := (hbc.block B8 (Array.getElem?_eq_some_iff.1 hZ8).1).trans hZ8
              replace hLT8 := (Array.getElem?_eq_some_iff.1 hZ8).1
              replace hZ7 := (hbc.block B7 (Array.getElem?_eq_some_iff.1 hZ7).1).trans hZ7
              replace hLT7 := (Array.getElem?_eq_some_iff.1 hZ7).1
              clear hK K hbc
              refine wpAnyH_take (i := 4) (v := ?_) rfl (by kernel_rfl) (by kernel_rfl) (by kernel_rfl) (fun _ _ _ h => h) (Or.inl ⟨by rfl, ?_⟩) hS ?_
              rotate_left
              · intro V hV
                go_simp
                (try with_reducible rfl)
              simp only [Act.put]
              refine wpAnyH_take (i := 5) (v := ?_) rfl (by kernel_rfl) (by kernel_rfl) (by kernel_rfl) (fun _ _ _ h => h) (Or.inl ⟨by rfl, ?_⟩) hS ?_
              rotate_left
              · intro V hV
                go_simp
                (try with_reducible rfl)
              simp only [Act.put]
              refine wpAnyH_take (i := 6) (v := ?_) rfl (by kernel_rfl) (by kernel_rfl) (by kernel_rfl) (fun _ _ _ h => h) (Or.inl ⟨by rfl, ?_⟩) hS ?_
              rotate_left
              · intro V hV
                go_simp
                (try with_reducible rfl)
              simp only [Act.put]
              obtain ⟨a0, a1, a2, a3⟩ := cells4 hZ7
              have fa : ∀ o, U16.frozen? ⟨B7, o, none⟩ = false := fun o => blk_free hZ7
              refine wpAnyH_ready (rs := [9]) (by kernel_rfl) (by simp) (AllReadyH.cons rfl (fun K hK => ?_) AllReadyH.nil)
              go_simp
              have g7 := stored4 (z0 := .int .u64 q0) (z1 := .int .u64 q1) (z2 := .int .u64 q2) (z3 := .int .u64 q3) hZ7
              have hSB := below_stored4 (b := B7) (z0 := .int .u64 q0) (z1 := .int .u64 q1) (z2 := .int .u64 q2) (z3 := .int .u64 q3) hS hL7
              have o8 := (other4 (b := B7) (c := B8) (z0 := .int .u64 q0) (z1 := .int .u64 q1) (z2 := .int .u64 q2) (z3 := .int .u64 q3) (by first | exact hN87 | exact (hN87).symm | exact hN78 | exact (hN78).symm)).trans hZ8
              clear hZ8
              have hZ8 := o8
              clear o8
              generalize ((((U16.setCell ⟨B7, 0, none⟩ (.int .u64 q0)).setCell ⟨B7, 1, none⟩ (.int .u64 q1)).setCell ⟨B7, 2, none⟩ (.int .u64 q2)).setCell ⟨B7, 3, none⟩ (.int .u64 q3)) = U16x at g7 hSB hZ8 ⊢
              refine hK.out _ _ hSB (fun hS => ?_)
              clear hK K hSB a0 a1 a2 a3 fa hZ7
              obtain ⟨a0, a1, a2, a3⟩ := cells4 hZ8
              have fa : ∀ o, U16x.frozen? ⟨B8, o, none⟩ = false := fun o => blk_free hZ8
              refine wpAnyH_ready (rs := [10]) (by kernel_rfl) (by simp) (AllReadyH.cons rfl (fun K hK => ?_) AllReadyH.nil)
              go_simp
              have g8 := stored4 (z0 := .int .u64 r0) (z1 := .int .u64 r1) (z2 := .int .u64 r2) (z3 := .int .u64 r3) hZ8
              have hSB := below_stored4 (b := B8) (z0 := .int .u64 r0) (z1 := .int .u64 r1) (z2 := .int .u64 r2) (z3 := .int .u64 r3) hS hL8
              have o7 := (other4 (b := B8) (c := B7) (z0 := .int .u64 r0) (z1 := .int .u64 r1) (z2 := .int .u64 r2) (z3 := .int .u64 r3) (by first | exact hN78 | exact (hN78).symm | exact hN87 | exact (hN87).symm)).trans g7
              clear g7
              have g7 := o7
              clear o7
              generalize ((((U16x.setCell ⟨B8, 0, none⟩ (.int .u64 r0)).setCell ⟨B8, 1, none⟩ (.int .u64 r1)).setCell ⟨B8, 2, none⟩ (.int .u64 r2)).setCell ⟨B8, 3, none⟩ (.int .u64 r3)) = U16xx at g8 hSB g7 ⊢
              refine hK.out _ _ hSB (fun hS => wpAnyH_done (by kernel_rfl) ?_ _)
              clear hK K
              go_wp2_with fail
              go_meet
              exact ⟨B7, B8, rfl, rfl, g7, g8, hL7, hL8, hSB⟩
      · go_simp
        obtain ⟨B7, hBe⟩ : ∃ B7, B7 = W0.heap.size := ⟨_, rfl⟩
        have hZ7 : (W0.alloc (.cells #[.int .u64 0, .int .u64 0, .int .u64 0, .int .u64 0] 24)).drew.heap[B7]? = some (.cells #[.int .u64 0, .int .u64 0, .int .u64 0, .int .u64 0] 24 (0, 0)) := by rw [hBe]; exact heap_new _ _
        have hL7 : W0.heap.size ≤ B7 := by rw [hBe]; exact Nat.le_refl _
        have hSA : Below W0.heap.size W0 (W0.alloc (.cells #[.int .u64 0, .int .u64 0, .int .u64 0, .int .u64 0] 24)).drew := ((Below.refl _ W0).alloc (Nat.le_refl _) _).drew
        rw [← hBe]
        have hLT7 : B7 < (W0.alloc (.cells #[.int .u64 0, .int .u64 0, .int .u64 0, .int .u64 0] 24)).drew.heap.size := (Array.getElem?_eq_some_iff.1 hZ7).1
        generalize (W0.alloc (.cells #[.int .u64 0, .int .u64 0, .int .u64 0, .int .u64 0] 24)).drew = U17 at hZ7  hSA hLT7  ⊢
        refine hK.out _ _ hSA (fun hS => ?_)
        clear hK K hSA hBe
        refine wpAnyH_ready (rs := [2, 8]) (by kernel_rfl) (by simp) ?_
        refine AllReadyH.cons rfl (fun K hK => ?_) (AllReadyH.cons rfl (fun K hK => ?_) AllReadyH.nil)
        · go_simp
          refine (HOF.out _).mono ?_
          rintro e U18 ⟨rfl, hbc⟩
          refine hK.out _ _ (hS.trans (hbc.mono hS.size)) (fun hS => ?_)
          replace hZ7 := (hbc.block B7 (Array.getElem?_eq_some_iff.1 hZ7).1).trans hZ7
          replace hLT7 := (Array.getElem?_eq_some_iff.1 hZ7).1
          clear hK K hbc
          refine wpAnyH_ready (rs := [3, 8]) (by kernel_rfl) (by simp) ?_
          refine AllReadyH.cons rfl (fun K hK => ?_) (AllReadyH.cons rfl (fun K hK => ?_) AllReadyH.nil)
          · go_simp
            refine (HDV.out _).mono ?_
            rintro e U19 ⟨rfl, hbc⟩
            refine hK.out _ _ (hS.trans (hbc.mono hS.size)) (fun hS => ?_)
            replace hZ7 := (hbc.block B7 (Array.getElem?_eq_some_iff.1 hZ7).1).trans hZ7
            replace hLT7 := (Array.getElem?_eq_some_iff.1 hZ7).1
            clear hK K hbc
            refine wpAnyH_take (i := 4) (v := ?_) rfl (by kernel_rfl) (by kernel_rfl) (by kernel_rfl) (fun _ _ _ h => h) (Or.inl ⟨by rfl, ?_⟩) hS ?_
            rotate_left
            · intro V hV
              go_simp
              (try with_reducible rfl)
            simp only [Act.put]
            refine wpAnyH_take (i := 5) (v := ?_) rfl (by kernel_rfl) (by kernel_rfl) (by kernel_rfl) (fun _ _ _ h => h) (Or.inl ⟨by rfl, ?_⟩) hS ?_
            rotate_left
            · intro V hV
              go_simp
              (try with_reducible rfl)
            simp only [Act.put]
            refine wpAnyH_take (i := 6) (v := ?_) rfl (by kernel_rfl) (by kernel_rfl) (by kernel_rfl) (fun _ _ _ h => h) (Or.inl ⟨by rfl, ?_⟩) hS ?_
            rotate_left
            · intro V hV
              go_simp
              (try with_reducible rfl)
            simp only [Act.put]
            refine wpAnyH_ready (rs := [8]) (by kernel_rfl) (by simp) ?_
            refine AllReadyH.cons rfl (fun K hK => ?_) AllReadyH.nil
            · go_simp
              obtain ⟨B8, hBe⟩ : ∃ B8, B8 = U19.heap.size := ⟨_, rfl⟩
              have hZ8 : (U19.alloc (.cells #[.int .u64 0, .int .u64 0, .int .u64 0, .int .u64 0] 24)).heap[B8]? = some (.cells #[.int .u64 0, .int .u64 0, .int .u64 0, .int .u64 0] 24 (0, 0)) := by rw [hBe]; exact heap_new _ _
              have hL8 : W0.heap.size ≤ B8 := by rw [hBe]; exact hS.size
              have hSA : Below W0.heap.size W0 (U19.alloc (.cells #[.int .u64 0, .int .u64 0, .int .u64 0, .int .u64 0] 24)) := hS.alloc hS.size _
              have hY7 : (U19.alloc (.cells #[.int .u64 0, .int .u64 0, .int .u64 0, .int .u64 0] 24)).heap[B7]? = _ := (heap_old _ _ (Array.getElem?_eq_some_iff.1 hZ7).1).trans hZ7
              clear hZ7
              have hZ7 := hY7
              clear hY7
              have hN87 : B7 ≠ B8 := by rw [hBe]; exact Nat.ne_of_lt (hLT7)
              rw [← hBe]
              have hLT8 : B8 < (U19.alloc (.cells #[.int .u64 0, .int .u64 0, .int .u64 0, .int .u64 0] 24)).heap.size := (Array.getElem?_eq_some_iff.1 hZ8).1
              have hQ7 : B7 < (U19.alloc (.cells #[.int .u64 0, .int .u64 0, .int .u64 0, .int .u64 0] 24)).heap.size := (Array.getElem?_eq_some_iff.1 hZ7).1
              clear hLT7
              have hLT7 := hQ7
              clear hQ7
              generalize (U19.alloc (.cells #[.int .u64 0, .int .u64 0, .int .u64 0, .int .u64 0] 24)) = U20 at hZ8 hZ7 hSA hLT8 hLT7 ⊢
              refine hK.out _ _ hSA (fun hS => ?_)
              clear hK K hSA hBe
              obtain ⟨a0, a1, a2, a3⟩ := cells4 hZ7
              have fa : ∀ o, U20.frozen? ⟨B7, o, none⟩ = false := fun o => blk_free hZ7
              refine wpAnyH_ready (rs := [9]) (by kernel_rfl) (by simp) (AllReadyH.cons rfl (fun K hK => ?_) AllReadyH.nil)
              go_simp
              have g7 := stored4 (z0 := .int .u64 q0) (z1 := .int .u64 q1) (z2 := .int .u64 q2) (z3 := .int .u64 q3) hZ7
              have hSB := below_stored4 (b := B7) (z0 := .int .u64 q0) (z1 := .int .u64 q1) (z2 := .int .u64 q2) (z3 := .int .u64 q3) hS hL7
              have o8 := (other4 (b := B7) (c := B8) (z0 := .int .u64 q0) (z1 := .int .u64 q1) (z2 := .int .u64 q2) (z3 := .int .u64 q3) (by first | exact hN87 | exact (hN87).symm | exact hN78 | exact (hN78).symm)).trans hZ8
              clear hZ8
              have hZ8 := o8
              clear o8
              generalize ((((U20.setCell ⟨B7, 0, none⟩ (.int .u64 q0)).setCell ⟨B7, 1, none⟩ (.int .u64 q1)).setCell ⟨B7, 2, none⟩ (.int .u64 q2)).setCell ⟨B7, 3, none⟩ (.int .u64 q3)) = U20x at g7 hSB hZ8 ⊢
              refine hK.out _ _ hSB (fun hS => ?_)
              clear hK K hSB a0 a1 a2 a3 fa hZ7
              obtain ⟨a0, a1, a2, a3⟩ := cells4 hZ8
              have fa : ∀ o, U20x.frozen? ⟨B8, o, none⟩ = false := fun o => blk_free hZ8
              refine wpAnyH_ready (rs := [10]) (by kernel_rfl) (by simp) (AllReadyH.cons rfl (fun K hK => ?_) AllReadyH.nil)
              go_simp
              have g8 := stored4 (z0 := .int .u64 r0) (z1 := .int .u64 r1) (z2 := .int .u64 r2) (z3 := .int .u64 r3) hZ8
              have hSB := below_stored4 (b := B8) (z0 := .int .u64 r0) (z1 := .int .u64 r1) (z2 := .int .u64 r2) (z3 := .int .u64 r3) hS hL8
              have o7 := (other4 (b := B8) (c := B7) (z0 := .int .u64 r0) (z1 := .int .u64 r1) (z2 := .int .u64 r2) (z3 := .int .u64 r3) (by first | exact hN78 | exact (hN78).symm | exact hN87 | exact (hN87).symm)).trans g7
              clear g7
              have g7 := o7
              clear o7
              generalize ((((U20x.setCell ⟨B8, 0, none⟩ (.int .u64 r0)).setCell ⟨B8, 1, none⟩ (.int .u64 r1)).setCell ⟨B8, 2, none⟩ (.int .u64 r2)).setCell ⟨B8, 3, none⟩ (.int .u64 r3)) = U20xx at g8 hSB g7 ⊢
              refine hK.out _ _ hSB (fun hS => wpAnyH_done (by kernel_rfl) ?_ _)
              clear hK K
              go_wp2_with fail
              go_meet
              exact ⟨B7, B8, rfl, rfl, g7, g8, hL7, hL8, hSB⟩
          · go_simp
            obtain ⟨B8, hBe⟩ : ∃ B8, B8 = U18.heap.size := ⟨_, rfl⟩
            have hZ8 : (U18.alloc (.cells #[.int .u64 0, .int .u64 0, .int .u64 0, .int .u64 0] 24)).heap[B8]? = some (.cells #[.int .u64 0, .int .u64 0, .int .u64 0, .int .u64 0] 24 (0, 0)) := by rw [hBe]; exact heap_new _ _
            have hL8 : W0.heap.size ≤ B8 := by rw [hBe]; exact hS.size
            have hSA : Below W0.heap.size W0 (U18.alloc (.cells #[.int .u64 0, .int .u64 0, .int .u64 0, .int .u64 0] 24)) := hS.alloc hS.size _
            have hY7 : (U18.alloc (.cells #[.int .u64 0, .int .u64 0, .int .u64 0, .int .u64 0] 24)).heap[B7]? = _ := (heap_old _ _ (Array.getElem?_eq_some_iff.1 hZ7).1).trans hZ7
            clear hZ7
            have hZ7 := hY7
            clear hY7
            have hN87 : B7 ≠ B8 := by rw [hBe]; exact Nat.ne_of_lt (hLT7)
            rw [← hBe]
            have hLT8 : B8 < (U18.alloc (.cells #[.int .u64 0, .int .u64 0, .int .u64 0, .int .u64 0] 24)).heap.size := (Array.getElem?_eq_some_iff.1 hZ8).1
            have hQ7 : B7 < (U18.alloc (.cells #[.int .u64 0, .int .u64 0, .int .u64 0, .int .u64 0] 24)).heap.size := (Array.getElem?_eq_some_iff.1 hZ7).1
            clear hLT7
            have hLT7 := hQ7
            clear hQ7
            generalize (U18.alloc (.cells #[.int .u64 0, .int .u64 0, .int .u64 0, .int .u64 0] 24)) = U21 at hZ8 hZ7 hSA hLT8 hLT7 ⊢
            refine hK.out _ _ hSA (fun hS => ?_)
            clear hK K hSA hBe
            refine wpAnyH_ready (rs := [3]) (by kernel_rfl) (by simp) ?_
            refine AllReadyH.cons rfl (fun K hK => ?_) AllReadyH.nil
            · go_simp
              refine (HDV.out _).mono ?_
              rintro e U22 ⟨rfl, hbc⟩
              refine hK.out _ _ (hS.trans (hbc.mono hS.size)) (fun hS => ?_)
              replace hZ7 := (hbc.block B7 (Array.getElem?_eq_some_iff.1 hZ7).1).trans hZ7
              replace hLT7 := (Array.getElem?_eq_some_iff.1 hZ7).1
              replace hZ8 := (hbc.block B8 (Array.getElem?_eq_some_iff.1 hZ8).1).trans hZ8
              replace hLT8 := (Array.getElem?_eq_some_iff.1 hZ8).1
              clear hK K hbc
              refine wpAnyH_take (i := 4) (v := ?_) rfl (by kernel_rfl) (by kernel_rfl) (by kernel_rfl) (fun _ _ _ h => h) (Or.inl ⟨by rfl, ?_⟩) hS ?_
              rotate_left
              · intro V hV
                go_simp
                (try with_reducible rfl)
              simp only [Act.put]
              refine wpAnyH_take (i := 5) (v := ?_) rfl (by kernel_rfl) (by kernel_rfl) (by kernel_rfl) (fun _ _ _ h => h) (Or.inl ⟨by rfl, ?_⟩) hS ?_
              rotate_left
              · intro V hV
                go_simp
                (try with_reducible rfl)
              simp only [Act.put]
              refine wpAnyH_take (i := 6) (v := ?_) rfl (by kernel_rfl) (by kernel_rfl) (by kernel_rfl) (fun _ _ _ h => h) (Or.inl ⟨by rfl, ?_⟩) hS ?_
              rotate_left
              · intro V hV
                go_simp
                (try with_reducible rfl)
              simp only [Act.put]
              obtain ⟨a0, a1, a2, a3⟩ := cells4 hZ7
              have fa : ∀ o, U22.frozen? ⟨B7, o, none⟩ = false := fun o => blk_free hZ7
              refine wpAnyH_ready (rs := [9]) (by kernel_rfl) (by simp) (AllReadyH.cons rfl (fun K hK => ?_) AllReadyH.nil)
              go_simp
              have g7 := stored4 (z0 := .int .u64 q0) (z1 := .int .u64 q1) (z2 := .int .u64 q2) (z3 := .int .u64 q3) hZ7
              have hSB := below_stored4 (b := B7) (z0 := .int .u64 q0) (z1 := .int .u64 q1) (z2 := .int .u64 q2) (z3 := .int .u64 q3) hS hL7
              have o8 := (other4 (b := B7) (c := B8) (z0 := .int .u64 q0) (z1 := .int .u64 q1) (z2 := .int .u64 q2) (z3 := .int .u64 q3) (by first | exact hN87 | exact (hN87).symm | exact hN78 | exact (hN78).symm)).trans hZ8
              clear hZ8
              have hZ8 := o8
              clear o8
              generalize ((((U22.setCell ⟨B7, 0, none⟩ (.int .u64 q0)).setCell ⟨B7, 1, none⟩ (.int .u64 q1)).setCell ⟨B7, 2, none⟩ (.int .u64 q2)).setCell ⟨B7, 3, none⟩ (.int .u64 q3)) = U22x at g7 hSB hZ8 ⊢
              refine hK.out _ _ hSB (fun hS => ?_)
              clear hK K hSB a0 a1 a2 a3 fa hZ7
              obtain ⟨a0, a1, a2, a3⟩ := cells4 hZ8
              have fa : ∀ o, U22x.frozen? ⟨B8, o, none⟩ = false := fun o => blk_free hZ8
              refine wpAnyH_ready (rs := [10]) (by kernel_rfl) (by simp) (AllReadyH.cons rfl (fun K hK => ?_) AllReadyH.nil)
              go_simp
              have g8 := stored4 (z0 := .int .u64 r0) (z1 := .int .u64 r1) (z2 := .int .u64 r2) (z3 := .int .u64 r3) hZ8
              have hSB := below_stored4 (b := B8) (z0 := .int .u64 r0) (z1 := .int .u64 r1) (z2 := .int .u64 r2) (z3 := .int .u64 r3) hS hL8
              have o7 := (other4 (b := B8) (c := B7) (z0 := .int .u64 r0) (z1 := .int .u64 r1) (z2 := .int .u64 r2) (z3 := .int .u64 r3) (by first | exact hN78 | exact (hN78).symm | exact hN87 | exact (hN87).symm)).trans g7
              clear g7
              have g7 := o7
              clear o7
              generalize ((((U22x.setCell ⟨B8, 0, none⟩ (.int .u64 r0)).setCell ⟨B8, 1, none⟩ (.int .u64 r1)).setCell ⟨B8, 2, none⟩ (.int .u64 r2)).setCell ⟨B8, 3, none⟩ (.int .u64 r3)) = U22xx at g8 hSB g7 ⊢
              refine hK.out _ _ hSB (fun hS => wpAnyH_done (by kernel_rfl) ?_ _)
              clear hK K
              go_wp2_with fail
              go_meet
              exact ⟨B7, B8, rfl, rfl, g7, g8, hL7, hL8, hSB⟩
        · go_simp
          obtain ⟨B8, hBe⟩ : ∃ B8, B8 = U17.heap.size := ⟨_, rfl⟩
          have hZ8 : (U17.alloc (.cells #[.int .u64 0, .int .u64 0, .int .u64 0, .int .u64 0] 24)).heap[B8]? = some (.cells #[.int .u64 0, .int .u64 0, .int .u64 0, .int .u64 0] 24 (0, 0)) := by rw [hBe]; exact heap_new _ _
          have hL8 : W0.heap.size ≤ B8 := by rw [hBe]; exact hS.size
          have hSA : Below W0.heap.size W0 (U17.alloc (.cells #[.int .u64 0, .int .u64 0, .int .u64 0, .int .u64 0] 24)) := hS.alloc hS.size _
          have hY7 : (U17.alloc (.cells #[.int .u64 0, .int .u64 0, .int .u64 0, .int .u64 0] 24)).heap[B7]? = _ := (heap_old _ _ (Array.getElem?_eq_some_iff.1 hZ7).1).trans hZ7
          clear hZ7
          have hZ7 := hY7
          clear hY7
          have hN87 : B7 ≠ B8 := by rw [hBe]; exact Nat.ne_of_lt (hLT7)
          rw [← hBe]
          have hLT8 : B8 < (U17.alloc (.cells #[.int .u64 0, .int .u64 0, .int .u64 0, .int .u64 0] 24)).heap.size := (Array.getElem?_eq_some_iff.1 hZ8).1
          have hQ7 : B7 < (U17.alloc (.cells #[.int .u64 0, .int .u64 0, .int .u64 0, .int .u64 0] 24)).heap.size := (Array.getElem?_eq_some_iff.1 hZ7).1
          clear hLT7
          have hLT7 := hQ7
          clear hQ7
          generalize (U17.alloc (.cells #[.int .u64 0, .int .u64 0, .int .u64 0, .int .u64 0] 24)) = U23 at hZ8 hZ7 hSA hLT8 hLT7 ⊢
          refine hK.out _ _ hSA (fun hS => ?_)
          clear hK K hSA hBe
          refine wpAnyH_ready (rs := [2]) (by kernel_rfl) (by simp) ?_
          refine AllReadyH.cons rfl (fun K hK => ?_) AllReadyH.nil
          · go_simp
            refine (HOF.out _).mono ?_
            rintro e U24 ⟨rfl, hbc⟩
            refine hK.out _ _ (hS.trans (hbc.mono hS.size)) (fun hS => ?_)
            replace hZ7 := (hbc.block B7 (Array.getElem?_eq_some_iff.1 hZ7).1).trans hZ7
            replace hLT7 := (Array.getElem?_eq_some_iff.1 hZ7).1
            replace hZ8 := (hbc.block B8 (Array.getElem?_eq_some_iff.1 hZ8).1).trans hZ8
            replace hLT8 := (Array.getElem?_eq_some_iff.1 hZ8).1
            clear hK K hbc
            refine wpAnyH_ready (rs := [3]) (by kernel_rfl) (by simp) ?_
            refine AllReadyH.cons rfl (fun K hK => ?_) AllReadyH.nil
            · go_simp
              refine (HDV.out _).mono ?_
              rintro e U25 ⟨rfl, hbc⟩
              refine hK.out _ _ (hS.trans (hbc.mono hS.size)) (fun hS => ?_)
              replace hZ7 := (hbc.block B7 (Array.getElem?_eq_some_iff.1 hZ7).1).trans hZ7
              replace hLT7 := (Array.getElem?_eq_some_iff.1 hZ7).1
              replace hZ8 := (hbc.block B8 (Array.getElem?_eq_some_iff.1 hZ8).1).trans hZ8
              replace hLT8 := (Array.getElem?_eq_some_iff.1 hZ8).1
              clear hK K hbc
              refine wpAnyH_take (i := 4) (v := ?_) rfl (by kernel_rfl) (by kernel_rfl) (by kernel_rfl) (fun _ _ _ h => h) (Or.inl ⟨by rfl, ?_⟩) hS ?_
              rotate_left
              · intro V hV
                go_simp
                (try with_reducible rfl)
              simp only [Act.put]
              refine wpAnyH_take (i := 5) (v := ?_) rfl (by kernel_rfl) (by kernel_rfl) (by kernel_rfl) (fun _ _ _ h => h) (Or.inl ⟨by rfl, ?_⟩) hS ?_
              rotate_left
              · intro V hV
                go_simp
                (try with_reducible rfl)
              simp only [Act.put]
              refine wpAnyH_take (i := 6) (v := ?_) rfl (by kernel_rfl) (by kernel_rfl) (by kernel_rfl) (fun _ _ _ h => h) (Or.inl ⟨by rfl, ?_⟩) hS ?_
              rotate_left
              · intro V hV
                go_simp
                (try with_reducible rfl)
              simp only [Act.put]
              obtain ⟨a0, a1, a2, a3⟩ := cells4 hZ7
              have fa : ∀ o, U25.frozen? ⟨B7, o, none⟩ = false := fun o => blk_free hZ7
              refine wpAnyH_ready (rs := [9]) (by kernel_rfl) (by simp) (AllReadyH.cons rfl (fun K hK => ?_) AllReadyH.nil)
              go_simp
              have g7 := stored4 (z0 := .int .u64 q0) (z1 := .int .u64 q1) (z2 := .int .u64 q2) (z3 := .int .u64 q3) hZ7
              have hSB := below_stored4 (b := B7) (z0 := .int .u64 q0) (z1 := .int .u64 q1) (z2 := .int .u64 q2) (z3 := .int .u64 q3) hS hL7
              have o8 := (other4 (b := B7) (c := B8) (z0 := .int .u64 q0) (z1 := .int .u64 q1) (z2 := .int .u64 q2) (z3 := .int .u64 q3) (by first | exact hN87 | exact (hN87).symm | exact hN78 | exact (hN78).symm)).trans hZ8
              clear hZ8
              have hZ8 := o8
              clear o8
              generalize ((((U25.setCell ⟨B7, 0, none⟩ (.int .u64 q0)).setCell ⟨B7, 1, none⟩ (.int .u64 q1)).setCell ⟨B7, 2, none⟩ (.int .u64 q2)).setCell ⟨B7, 3, none⟩ (.int .u64 q3)) = U25x at g7 hSB hZ8 ⊢
              refine hK.out _ _ hSB (fun hS => ?_)
              clear hK K hSB a0 a1 a2 a3 fa hZ7
              obtain ⟨a0, a1, a2, a3⟩ := cells4 hZ8
              have fa : ∀ o, U25x.frozen? ⟨B8, o, none⟩ = false := fun o => blk_free hZ8
              refine wpAnyH_ready (rs := [10]) (by kernel_rfl) (by simp) (AllReadyH.cons rfl (fun K hK => ?_) AllReadyH.nil)
              go_simp
              have g8 := stored4 (z0 := .int .u64 r0) (z1 := .int .u64 r1) (z2 := .int .u64 r2) (z3 := .int .u64 r3) hZ8
              have hSB := below_stored4 (b := B8) (z0 := .int .u64 r0) (z1 := .int .u64 r1) (z2 := .int .u64 r2) (z3 := .int .u64 r3) hS hL8
              have o7 := (other4 (b := B8) (c := B7) (z0 := .int .u64 r0) (z1 := .int .u64 r1) (z2 := .int .u64 r2) (z3 := .int .u64 r3) (by first | exact hN78 | exact (hN78).symm | exact hN87 | exact (hN87).symm)).trans g7
              clear g7
              have g7 := o7
              clear o7
              generalize ((((U25x.setCell ⟨B8, 0, none⟩ (.int .u64 r0)).setCell ⟨B8, 1, none⟩ (.int .u64 r1)).setCell ⟨B8, 2, none⟩ (.int .u64 r2)).setCell ⟨B8, 3, none⟩ (.int .u64 r3)) = U25xx at g8 hSB g7 ⊢
              refine hK.out _ _ hSB (fun hS => wpAnyH_done (by kernel_rfl) ?_ _)
              clear hK K
              go_wp2_with fail
              go_meet
              exact ⟨B7, B8, rfl, rfl, g7, g8, hL7, hL8, hSB⟩
      · go_simp
        obtain ⟨B8, hBe⟩ : ∃ B8, B8 = W0.heap.size := ⟨_, rfl⟩
        have hZ8 : (W0.alloc (.cells #[.int .u64 0, .int .u64 0, .int .u64 0, .int .u64 0] 24)).drew.heap[B8]? = some (.cells #[.int .u64 0, .int .u64 0, .int .u64 0, .int .u64 0] 24 (0, 0)) := by rw [hBe]; exact heap_new _ _
        have hL8 : W0.heap.size ≤ B8 := by rw [hBe]; exact Nat.le_refl _
        have hSA : Below W0.heap.size W0 (W0.alloc (.cells #[.int .u64 0, .int .u64 0, .int .u64 0, .int .u64 0] 24)).drew := ((Below.refl _ W0).alloc (Nat.le_refl _) _).drew
        rw [← hBe]
        have hLT8 : B8 < (W0.alloc (.cells #[.int .u64 0, .int .u64 0, .int .u64 0, .int .u64 0] 24)).drew.heap.size := (Array.getElem?_eq_some_iff.1 hZ8).1
        generalize (W0.alloc (.cells #[.int .u64 0, .int .u64 0, .int .u64 0, .int .u64 0] 24)).drew = U26 at hZ8  hSA hLT8  ⊢
        refine hK.out _ _ hSA (fun hS => ?_)
        clear hK K hSA hBe
        refine wpAnyH_ready (rs := [2, 7]) (by kernel_rfl) (by simp) ?_
        refine AllReadyH.cons rfl (fun K hK => ?_) (AllReadyH.cons rfl (fun K hK => ?_) AllReadyH.nil)
        · go_simp
          refine (HOF.out _).mono ?_
          rintro e U27 ⟨rfl, hbc⟩
          refine hK.out _ _ (hS.trans (hbc.mono hS.size)) (fun hS => ?_)
          replace hZ8 := (hbc.block B8 (Array.getElem?_eq_some_iff.1 hZ8).1).trans hZ8
          replace hLT8 := (Array.getElem?_eq_some_iff.1 hZ8).1
          clear hK K hbc
          refine wpAnyH_ready (rs := [3, 7]) (by kernel_rfl) (by simp) ?_
          refine AllReadyH.cons rfl (fun K hK => ?_) (AllReadyH.cons rfl (fun K hK => ?_) AllReadyH.nil)
          · go_simp
            refine (HDV.out _).mono ?_
            rintro e U28 ⟨rfl, hbc⟩
            refine hK.out _ _ (hS.trans (hbc.mono hS.size)) (fun hS => ?_)
            replace hZ8 := (hbc.block B8 (Array.getElem?_eq_some_iff.1 hZ8).1).trans hZ8
            replace hLT8 := (Array.getElem?_eq_some_iff.1 hZ8).1
            clear hK K hbc
            refine wpAnyH_take (i := 4) (v := ?_) rfl (by kernel_rfl) (by kernel_rfl) (by kernel_rfl) (fun _ _ _ h => h) (Or.inl ⟨by rfl, ?_⟩) hS ?_
            rotate_left
            · intro V hV
              go_simp
              (try with_reducible rfl)
            simp only [Act.put]
            refine wpAnyH_take (i := 5) (v := ?_) rfl (by kernel_rfl) (by kernel_rfl) (by kernel_rfl) (fun _ _ _ h => h) (Or.inl ⟨by rfl, ?_⟩) hS ?_
            rotate_left
            · intro V hV
              go_simp
              (try with_reducible rfl)
            simp only [Act.put]
            refine wpAnyH_take (i := 6) (v := ?_) rfl (by kernel_rfl) (by kernel_rfl) (by kernel_rfl) (fun _ _ _ h => h) (Or.inl ⟨by rfl, ?_⟩) hS ?_
            rotate_left
            · intro V hV
              go_simp
              (try with_reducible rfl)
            simp only [Act.put]
            refine wpAnyH_ready (rs := [7]) (by kernel_rfl) (by simp) ?_
            refine AllReadyH.cons rfl (fun K hK => ?_) AllReadyH.nil
            · go_simp
              obtain ⟨B7, hBe⟩ : ∃ B7, B7 = U28.heap.size := ⟨_, rfl⟩
              have hZ7 : (U28.alloc (.cells #[.int .u64 0, .int .u64 0, .int .u64 0, .int .u64 0] 24)).heap[B7]? = some (.cells #[.int .u64 0, .int .u64 0, .int .u64 0, .int .u64 0] 24 (0, 0)) := by rw [hBe]; exact heap_new _ _
              have hL7 : W0.heap.size ≤ B7 := by rw [hBe]; exact hS.size
              have hSA : Below W0.heap.size W0 (U28.alloc (.cells #[.int .u64 0, .int .u64 0, .int .u64 0, .int .u64 0] 24)) := hS.alloc hS.size _
              have hY8 : (U28.alloc (.cells #[.int .u64 0, .int .u64 0, .int .u64 0, .int .u64 0] 24)).heap[B8]? = _ := (heap_old _ _ (Array.getElem?_eq_some_iff.1 hZ8).1).trans hZ8
              clear hZ8
              have hZ8 := hY8
              clear hY8
              have hN78 : B8 ≠ B7 := by rw [hBe]; exact Nat.ne_of_lt (hLT8)
              rw [← hBe]
              have hLT7 : B7 < (U28.alloc (.cells #[.int .u64 0, .int .u64 0, .int .u64 0, .int .u64 0] 24)).heap.size := (Array.getElem?_eq_some_iff.1 hZ7).1
              have hQ8 : B8 < (U28.alloc (.cells #[.int .u64 0, .int .u64 0, .int .u64 0, .int .u64 0] 24)).heap.size := (Array.getElem?_eq_some_iff.1 hZ8).1
              clear hLT8
              have hLT8 := hQ8
              clear hQ8
              generalize (U28.alloc (.cells #[.int .u64 0, .int .u64 0, .int .u64 0, .int .u64 0] 24)) = U29 at hZ7 hZ8 hSA hLT7 hLT8 ⊢
              refine hK.out _ _ hSA (fun hS => ?_)
              clear hK K hSA hBe
              obtain ⟨a0, a1, a2, a3⟩ := cells4 hZ7
              have fa : ∀ o, U29.frozen? ⟨B7, o, none⟩ = false := fun o => blk_free hZ7
              refine wpAnyH_ready (rs := [9]) (by kernel_rfl) (by simp) (AllReadyH.cons rfl (fun K hK => ?_) AllReadyH.nil)
              go_simp
              have g7 := stored4 (z0 := .int .u64 q0) (z1 := .int .u64 q1) (z2 := .int .u64 q2) (z3 := .int .u64 q3) hZ7
              have hSB := below_stored4 (b := B7) (z0 := .int .u64 q0) (z1 := .int .u64 q1) (z2 := .int .u64 q2) (z3 := .int .u64 q3) hS hL7
              have o8 := (other4 (b := B7) (c := B8) (z0 := .int .u64 q0) (z1 := .int .u64 q1) (z2 := .int .u64 q2) (z3 := .int .u64 q3) (by first | exact hN87 | exact (hN87).symm | exact hN78 | exact (hN78).symm)).trans hZ8
              clear hZ8
              have hZ8 := o8
              clear o8
              generalize ((((U29.setCell ⟨B7, 0, none⟩ (.int .u64 q0)).setCell ⟨B7, 1, none⟩ (.int .u64 q1)).setCell ⟨B7, 2, none⟩ (.int .u64 q2)).setCell ⟨B7, 3, none⟩ (.int .u64 q3)) = U29x at g7 hSB hZ8 ⊢
              refine hK.out _ _ hSB (fun hS => ?_)
              clear hK K hSB a0 a1 a2 a3 fa hZ7
              obtain ⟨a0, a1, a2, a3⟩ := cells4 hZ8
              have fa : ∀ o, U29x.frozen? ⟨B8, o, none⟩ = false := fun o => blk_free hZ8
              refine wpAnyH_ready (rs := [10]) (by kernel_rfl) (by simp) (AllReadyH.cons rfl (fun K hK => ?_) AllReadyH.nil)
              go_simp
              have g8 := stored4 (z0 := .int .u64 r0) (z1 := .int .u64 r1) (z2 := .int .u64 r2) (z3 := .int .u64 r3) hZ8
              have hSB := below_stored4 (b := B8) (z0 := .int .u64 r0) (z1 := .int .u64 r1) (z2 := .int .u64 r2) (z3 := .int .u64 r3) hS hL8
              have o7 := (other4 (b := B8) (c := B7) (z0 := .int .u64 r0) (z1 := .int .u64 r1) (z2 := .int .u64 r2) (z3 := .int .u64 r3) (by first | exact hN78 | exact (hN78).symm | exact hN87 | exact (hN87).symm)).trans g7
              clear g7
              have g7 := o7
              clear o7
              generalize ((((U29x.setCell ⟨B8, 0, none⟩ (.int .u64 r0)).setCell ⟨B8, 1, none⟩ (.int .u64 r1)).setCell ⟨B8, 2, none⟩ (.int .u64 r2)).setCell ⟨B8, 3, none⟩ (.int .u64 r3)) = U29xx at g8 hSB g7 ⊢
              refine hK.out _ _ hSB (fun hS => wpAnyH_done (by kernel_rfl) ?_ _)
              clear hK K
              go_wp2_with fail
              go_meet
              exact ⟨B7, B8, rfl, rfl, g7, g8, hL7, hL8, hSB⟩
          · go_simp
            obtain ⟨B7, hBe⟩ : ∃ B7, B7 = U27.heap.size := ⟨_, rfl⟩
            have hZ7 : (U27.alloc (.cells #[.int .u64 0, .int .u64 0, .int .u64 0, .int .u64 0] 24)).heap[B7]? = some (.cells #[.int .u64 0, .int .u64 0, .int .u64 0, .int .u64 0] 24 (0, 0)) := by rw [hBe]; exact heap_new _ _
            have hL7 : W0.heap.size ≤ B7 := by rw [hBe]; exact hS.size
            have hSA : Below W0.heap.size W0 (U27.alloc (.cells #[.int .u64 0, .int .u64 0, .int .u64 0, .int .u64 0] 24)) := hS.alloc hS.size _
            have hY8 : (U27.alloc (.cells #[.int .u64 0, .int .u64 0, .int .u64 0, .int .u64 0] 24)).heap[B8]? = _ := (heap_old _ _ (Array.getElem?_eq_some_iff.1 hZ8).1).trans hZ8
            clear hZ8
            have hZ8 := hY8
            clear hY8
            have hN78 : B8 ≠ B7 := by rw [hBe]; exact Nat.ne_of_lt (hLT8)
            rw [← hBe]
            have hLT7 : B7 < (U27.alloc (.cells #[.int .u64 0, .int .u64 0, .int .u64 0, .int .u64 0] 24)).heap.size := (Array.getElem?_eq_some_iff.1 hZ7).1
            have hQ8 : B8 < (U27.alloc (.cells #[.int .u64 0, .int .u64 0, .int .u64 0, .int .u64 0] 24)).heap.size := (Array.getElem?_eq_some_iff.1 hZ8).1
            clear hLT8
            have hLT8 := hQ8
            clear hQ8
            generalize (U27.alloc (.cells #[.int .u64 0, .int .u64 0, .int .u64 0, .int .u64 0] 24)) = U30 at hZ7 hZ8 hSA hLT7 hLT8 ⊢
            refine hK.out _ _ hSA (fun hS => ?_)
            clear hK K hSA hBe
            refine wpAnyH_ready (rs := [3]) (by kernel_rfl) (by simp) ?_
            refine AllReadyH.cons rfl (fun K hK => ?_) AllReadyH.nil
            · go_simp
              refine (HDV.out _).mono ?_
              rintro e U31 ⟨rfl, hbc⟩
              refine hK.out _ _ (hS.trans (hbc.mono hS.size)) (fun hS => ?_)
              replace hZ8 := (hbc.block B8 (Array.getElem?_eq_some_iff.1 hZ8).1).trans hZ8
              replace hLT8 := (Array.getElem?_eq_some_iff.1 hZ8).1
              replace hZ7 := (hbc.block B7 (Array.getElem?_eq_some_iff.1 hZ7).1).trans hZ7
              replace hLT7 := (Array.getElem?_eq_some_iff.1 hZ7).1
              clear hK K hbc
              refine wpAnyH_take (i := 4) (v := ?_) rfl (by kernel_rfl) (by kernel_rfl) (by kernel_rfl) (fun _ _ _ h => h) (Or.inl ⟨by rfl, ?_⟩) hS ?_
              rotate_left
              · intro V hV
                go_simp
                (try with_reducible rfl)
              simp only [Act.put]
              refine wpAnyH_take (i := 5) (v := ?_) rfl (by kernel_rfl) (by kernel_rfl) (by kernel_rfl) (fun _ _ _ h => h) (Or.inl ⟨by rfl, ?_⟩) hS ?_
              rotate_left
              · intro V hV
                go_simp
                (try with_reducible rfl)
              simp only [Act.put]
              refine wpAnyH_take (i := 6) (v := ?_) rfl (by kernel_rfl) (by kernel_rfl) (by kernel_rfl) (fun _ _ _ h => h) (Or.inl ⟨by rfl, ?_⟩) hS ?_
              rotate_left
              · intro V hV
                go_simp
                (try with_reducible rfl)
              simp only [Act.put]
              obtain ⟨a0, a1, a2, a3⟩ := cells4 hZ7
              have fa : ∀ o, U31.frozen? ⟨B7, o, none⟩ = false := fun o => blk_free hZ7
              refine wpAnyH_ready (rs := [9]) (by kernel_rfl) (by simp) (AllReadyH.cons rfl (fun K hK => ?_) AllReadyH.nil)
              go_simp
              have g7 := stored4 (z0 := .int .u64 q0) (z1 := .int .u64 q1) (z2 := .int .u64 q2) (z3 := .int .u64 q3) hZ7
              have hSB := below_stored4 (b := B7) (z0 := .int .u64 q0) (z1 := .int .u64 q1) (z2 := .int .u64 q2) (z3 := .int .u64 q3) hS hL7
              have o8 := (other4 (b := B7) (c := B8) (z0 := .int .u64 q0) (z1 := .int .u64 q1) (z2 := .int .u64 q2) (z3 := .int .u64 q3) (by first | exact hN87 | exact (hN87).symm | exact hN78 | exact (hN78).symm)).trans hZ8
              clear hZ8
              have hZ8 := o8
              clear o8
              generalize ((((U31.setCell ⟨B7, 0, none⟩ (.int .u64 q0)).setCell ⟨B7, 1, none⟩ (.int .u64 q1)).setCell ⟨B7, 2, none⟩ (.int .u64 q2)).setCell ⟨B7, 3, none⟩ (.int .u64 q3)) = U31x at g7 hSB hZ8 ⊢
              refine hK.out _ _ hSB (fun hS => ?_)
              clear hK K hSB a0 a1 a2 a3 fa hZ7
              obtain ⟨a0, a1, a2, a3⟩ := cells4 hZ8
              have fa : ∀ o, U31x.frozen? ⟨B8, o, none⟩ = false := fun o => blk_free hZ8
              refine wpAnyH_ready (rs := [10]) (by kernel_rfl) (by simp) (AllReadyH.cons rfl (fun K hK => ?_) AllReadyH.nil)
              go_simp
              have g8 := stored4 (z0 := .int .u64 r0) (z1 := .int .u64 r1) (z2 := .int .u64 r2) (z3 := .int .u64 r3) hZ8
              have hSB := below_stored4 (b := B8) (z0 := .int .u64 r0) (z1 := .int .u64 r1) (z2 := .int .u64 r2) (z3 := .int .u64 r3) hS hL8
              have o7 := (other4 (b := B8) (c := B7) (z0 := .int .u64 r0) (z1 := .int .u64 r1) (z2 := .int .u64 r2) (z3 := .int .u64 r3) (by first | exact hN78 | exact (hN78).symm | exact hN87 | exact (hN87).symm)).trans g7
              clear g7
              have g7 := o7
              clear o7
              generalize ((((U31x.setCell ⟨B8, 0, none⟩ (.int .u64 r0)).setCell ⟨B8, 1, none⟩ (.int .u64 r1)).setCell ⟨B8, 2, none⟩ (.int .u64 r2)).setCell ⟨B8, 3, none⟩ (.int .u64 r3)) = U31xx at g8 hSB g7 ⊢
              refine hK.out _ _ hSB (fun hS => wpAnyH_done (by kernel_rfl) ?_ _)
              clear hK K
              go_wp2_with fail
              go_meet
              exact ⟨B7, B8, rfl, rfl, g7, g8, hL7, hL8, hSB⟩
        · go_simp
          obtain ⟨B7, hBe⟩ : ∃ B7, B7 = U26.heap.size := ⟨_, rfl⟩
          have hZ7 : (U26.alloc (.cells #[.int .u64 0, .int .u64 0, .int .u64 0, .int .u64 0] 24)).heap[B7]? = some (.cells #[.int .u64 0, .int .u64 0, .int .u64 0, .int .u64 0] 24 (0, 0)) := by rw [hBe]; exact heap_new _ _
          have hL7 : W0.heap.size ≤ B7 := by rw [hBe]; exact hS.size
          have hSA : Below W0.heap.size W0 (U26.alloc (.cells #[.int .u64 0, .int .u64 0, .int .u64 0, .int .u64 0] 24)) := hS.alloc hS.size _
          have hY8 : (U26.alloc (.cells #[.int .u64 0, .int .u64 0, .int .u64 0, .int .u64 0] 24)).heap[B8]? = _ := (heap_old _ _ (Array.getElem?_eq_some_iff.1 hZ8).1).trans hZ8
          clear hZ8
          have hZ8 := hY8
          clear hY8
          have hN78 : B8 ≠ B7 := by rw [hBe]; exact Nat.ne_of_lt (hLT8)
          rw [← hBe]
          have hLT7 : B7 < (U26.alloc (.cells #[.int .u64 0, .int .u64 0, .int .u64 0, .int .u64 0] 24)).heap.size := (Array.getElem?_eq_some_iff.1 hZ7).1
          have hQ8 : B8 < (U26.alloc (.cells #[.int .u64 0, .int .u64 0, .int .u64 0, .int .u64 0] 24)).heap.size := (Array.getElem?_eq_some_iff.1 hZ8).1
          clear hLT8
          have hLT8 := hQ8
          clear hQ8
          generalize (U26.alloc (.cells #[.int .u64 0, .int .u64 0, .int .u64 0, .int .u64 0] 24)) = U32 at hZ7 hZ8 hSA hLT7 hLT8 ⊢
          refine hK.out _ _ hSA (fun hS => ?_)
          clear hK K hSA hBe
          refine wpAnyH_ready (rs := [2]) (by kernel_rfl) (by simp) ?_
          refine AllReadyH.cons rfl (fun K hK => ?_) AllReadyH.nil
          · go_simp
            refine (HOF.out _).mono ?_
            rintro e U33 ⟨rfl, hbc⟩
            refine hK.out _ _ (hS.trans (hbc.mono hS.size)) (fun hS => ?_)
            replace hZ8 := (hbc.block B8 (Array.getElem?_eq_some_iff.1 hZ8).1).trans hZ8
            replace hLT8 := (Array.getElem?_eq_some_iff.1 hZ8).1
            replace hZ7 := (hbc.block B7 (Array.getElem?_eq_some_iff.1 hZ7).1).trans hZ7
            replace hLT7 := (Array.getElem?_eq_some_iff.1 hZ7).1
            clear hK K hbc
            refine wpAnyH_ready (rs := [3]) (by kernel_rfl) (by simp) ?_
            refine AllReadyH.cons rfl (fun K hK => ?_) AllReadyH.nil
            · go_simp
              refine (HDV.out _).mono ?_
              rintro e U34 ⟨rfl, hbc⟩
              refine hK.out _ _ (hS.trans (hbc.mono hS.size)) (fun hS => ?_)
              replace hZ8 := (hbc.block B8 (Array.getElem?_eq_some_iff.1 hZ8).1).trans hZ8
              replace hLT8 := (Array.getElem?_eq_some_iff.1 hZ8).1
              replace hZ7 := (hbc.block B7 (Array.getElem?_eq_some_iff.1 hZ7).1).trans hZ7
              replace hLT7 := (Array.getElem?_eq_some_iff.1 hZ7).1
              clear hK K hbc
              refine wpAnyH_take (i := 4) (v := ?_) rfl (by kernel_rfl) (by kernel_rfl) (by kernel_rfl) (fun _ _ _ h => h) (Or.inl ⟨by rfl, ?_⟩) hS ?_
              rotate_left
              · intro V hV
                go_simp
                (try with_reducible rfl)
              simp only [Act.put]
              refine wpAnyH_take (i := 5) (v := ?_) rfl (by kernel_rfl) (by kernel_rfl) (by kernel_rfl) (fun _ _ _ h => h) (Or.inl ⟨by rfl, ?_⟩) hS ?_
              rotate_left
              · intro V hV
                go_simp
                (try with_reducible rfl)
              simp only [Act.put]
              refine wpAnyH_take (i := 6) (v := ?_) rfl (by kernel_rfl) (by kernel_rfl) (by kernel_rfl) (fun _ _ _ h => h) (Or.inl ⟨by rfl, ?_⟩) hS ?_
              rotate_left
              · intro V hV
                go_simp
                (try with_reducible rfl)
              simp only [Act.put]
              obtain ⟨a0, a1, a2, a3⟩ := cells4 hZ7
              have fa : ∀ o, U34.frozen? ⟨B7, o, none⟩ = false := fun o => blk_free hZ7
              refine wpAnyH_ready (rs := [9]) (by kernel_rfl) (by simp) (AllReadyH.cons rfl (fun K hK => ?_) AllReadyH.nil)
              go_simp
              have g7 := stored4 (z0 := .int .u64 q0) (z1 := .int .u64 q1) (z2 := .int .u64 q2) (z3 := .int .u64 q3) hZ7
              have hSB := below_stored4 (b := B7) (z0 := .int .u64 q0) (z1 := .int .u64 q1) (z2 := .int .u64 q2) (z3 := .int .u64 q3) hS hL7
              have o8 := (other4 (b := B7) (c := B8) (z0 := .int .u64 q0) (z1 := .int .u64 q1) (z2 := .int .u64 q2) (z3 := .int .u64 q3) (by first | exact hN87 | exact (hN87).symm | exact hN78 | exact (hN78).symm)).trans hZ8
              clear hZ8
              have hZ8 := o8
              clear o8
              generalize ((((U34.setCell ⟨B7, 0, none⟩ (.int .u64 q0)).setCell ⟨B7, 1, none⟩ (.int .u64 q1)).setCell ⟨B7, 2, none⟩ (.int .u64 q2)).setCell ⟨B7, 3, none⟩ (.int .u64 q3)) = U34x at g7 hSB hZ8 ⊢
              refine hK.out _ _ hSB (fun hS => ?_)
              clear hK K hSB a0 a1 a2 a3 fa hZ7
              obtain ⟨a0, a1, a2, a3⟩ := cells4 hZ8
              have fa : ∀ o, U34x.frozen? ⟨B8, o, none⟩ = false := fun o => blk_free hZ8
              refine wpAnyH_ready (rs := [10]) (by kernel_rfl) (by simp) (AllReadyH.cons rfl (fun K hK => ?_) AllReadyH.nil)
              go_simp
              have g8 := stored4 (z0 := .int .u64 r0) (z1 := .int .u64 r1) (z2 := .int .u64 r2) (z3 := .int .u64 r3) hZ8
              have hSB := below_stored4 (b := B8) (z0 := .int .u64 r0) (z1 := .int .u64 r1) (z2 := .int .u64 r2) (z3 := .int .u64 r3) hS hL8
              have o7 := (other4 (b := B8) (c := B7) (z0 := .int .u64 r0) (z1 := .int .u64 r1) (z2 := .int .u64 r2) (z3 := .int .u64 r3) (by first | exact hN78 | exact (hN78).symm | exact hN87 | exact (hN87).symm)).trans g7
              clear g7
              have g7 := o7
              clear o7
              generalize ((((U34x.setCell ⟨B8, 0, none⟩ (.int .u64 r0)).setCell ⟨B8, 1, none⟩ (.int .u64 r1)).setCell ⟨B8, 2, none⟩ (.int .u64 r2)).setCell ⟨B8, 3, none⟩ (.int .u64 r3)) = U34xx at g8 hSB g7 ⊢
              refine hK.out _ _ hSB (fun hS => wpAnyH_done (by kernel_rfl) ?_ _)
              clear hK K
              go_wp2_with fail
              go_meet
              exact ⟨B7, B8, rfl, rfl, g7, g8, hL7, hL8, hSB⟩
    case rest =>
      obtain ⟨B7, B8, rfl, rfl, h7, h8, hl7, hl8, hbb⟩ := hcut
      obtain ⟨rfl, rfl, rfl, rfl⟩ := HQ.out
      obtain ⟨rfl, rfl, rfl, rfl⟩ := HRR.out
      obtain ⟨a0, a1, a2, a3⟩ := cells4 h7
      obtain ⟨b0, b1, b2, b3⟩ := cells4 h8
      have hx := (hbb.block w.heap.size (Array.getElem?_eq_some_iff.1 HX.out).1).trans HX.out
      have ht := (hbb.block (w.heap.size + 1) (Array.getElem?_eq_some_iff.1 HT.out).1).trans HT.out
      obtain ⟨c0, c1, c2, c3⟩ := cells4 hx
      have fx : ∀ o, wc.frozen? ⟨w.heap.size, o, none⟩ = false := fun o => blk_free hx
      have t0 : wc.cell? ⟨w.heap.size + 1, 76, none⟩ = some (.int .u8 0) := blk_cell ht (by kernel_rfl)
      have ft : wc.frozen? ⟨w.heap.size + 1, 76, none⟩ = false := blk_free ht
      have hlt := (Array.getElem?_eq_some_iff.1 HT.out).1
      have m1 : ¬ (w.heap.size + 1 = B7) := by omega
      have m2 : ¬ (B7 = w.heap.size + 1) := by omega
      have m3 : ¬ (w.heap.size = B7) := by omega
      have m4 : ¬ (B7 = w.heap.size) := by omega
      have HX2 := hideP hx
      have HT2 := hideP ht
      have HB2 : Hid (Below w.heap.size w wc) := HB0.out.trans (hbb.mono HB0.out.size)
      clear HDV hx ht h7 h8 hl7 hl8 hbb hlt
      have t1 : wc.cell? ⟨w.heap.size + 1, 77, none⟩ = some (.int .u8 102) := blk_cell HT2.out (by kernel_rfl)
      have hcv : ∀ V : World, V.cell? ⟨w.heap.size + 1, 76, none⟩ = some (.int .u8 102) → V.cell? ⟨w.heap.size + 1, 77, none⟩ = some (.int .u8 102) → (convert 51 9 (.slice (some ⟨w.heap.size + 1, 76, none⟩) 2 2)).run Try.prog V = .ok (.string ⟨#[102, 102]⟩) V := fun V h76 h77 => run_convert_bytes_back (P := Try.prog) V 51 9 5 ⟨w.heap.size + 1, 76, none⟩ 2 [102, 102] Try.underlying51 Try.underlying5 Try.underlying9 (fun j hj => by
        match j, hj with
        | 0, _ => exact h76
        | 1, _ => exact h77)
      go_wp2_with fail
      go_ret
      refine ⟨rfl, ?_⟩
      repeat first | exact HB2.out | apply Below.drew | (refine Below.setCell ?_ (by simp) _)

end Go.Proofs.Ytpnijncoldihfaa
