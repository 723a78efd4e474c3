/-
  Products modulo a word of one limb.
-/
import Derived.Test.YtpnijncoldihfaaTextsC12
namespace Go.Proofs.Ytpnijncoldihfaa
open Go.RowKit Go.Shelf

set_option maxHeartbeats 4000000 in
set_option maxRecDepth 100000 in
theorem mulMod_small (X Y N : Nat) (h0 : 0 < N) (hN : N < 18446744073709551616) (w : World) : Calls Try.prog 43 #[wv X, wv Y, wv N] w fun e w' => e = .returned (wv (X % M256 * (Y % M256) % N)) ∧ Below w.heap.size w w' := by
  have hw := fun W => wide_any X Y W
  have hd := fun W => divideWide_small (X % M256 * (Y % M256)) N (M256_sq X Y) h0 hN W
  obtain ⟨x0, x1, x2, x3, hX⟩ := wv_form X
  obtain ⟨y0, y1, y2, y3, hY⟩ := wv_form Y
  obtain ⟨m0, m1, m2, m3, hM⟩ := wv_form N
  obtain ⟨n0, n1, n2, n3, n4, n5, n6, n7, hN8⟩ := w8_form (X % M256 * (Y % M256))
  obtain ⟨q0, q1, q2, q3, q4, q5, q6, q7, hQ8⟩ := w8_form (X % M256 * (Y % M256) / N)
  obtain ⟨z0, z1, z2, z3, hZ⟩ := wv_form (X % M256 * (Y % M256) % N)
  simp only [hX, hY, hM, hN8, hQ8, hZ] at hw hd
  simp only [hX, hY, hM, hZ]
  have HW := hideP hw
  have HD := hideP hd
  clear hX hY hM hN8 hQ8 hZ hw hd h0 hN
  go_enter Try.func43, Try.ntmps43
  go_wp2_with fail
  obtain ⟨W0, HW0⟩ : ∃ W0, Hid (W0 = (((w.alloc (.cells #[.int .u64 x0, .int .u64 x1, .int .u64 x2, .int .u64 x3] 24)).alloc (.cells #[.int .u64 y0, .int .u64 y1, .int .u64 y2, .int .u64 y3] 24)).alloc (.cells #[.int .u64 m0, .int .u64 m1, .int .u64 m2, .int .u64 m3] 24)).alloc (.cells #[.int .u64 0, .int .u64 0, .int .u64 0, .int .u64 0] 24)) := ⟨_, rfl⟩
  rw [← HW0.out]
  have hxb : W0.heap[w.heap.size]? = some (.cells #[.int .u64 x0, .int .u64 x1, .int .u64 x2, .int .u64 x3] 24 (0, 0)) := by
    rw [HW0.out, heap_old _ _ (by simp <;> omega), heap_old _ _ (by simp <;> omega), heap_old _ _ (by simp)]
    exact heap_new _ _
  have hyb : W0.heap[w.heap.size + 1]? = some (.cells #[.int .u64 y0, .int .u64 y1, .int .u64 y2, .int .u64 y3] 24 (0, 0)) := by
    rw [HW0.out]
    exact heap_y _ _ _ _ _
  have hmb : W0.heap[w.heap.size + 1 + 1]? = some (.cells #[.int .u64 m0, .int .u64 m1, .int .u64 m2, .int .u64 m3] 24 (0, 0)) := by
    rw [HW0.out]
    exact heap_q _ _ _ _ _
  have hrb : W0.heap[w.heap.size + 1 + 1 + 1]? = some (.cells #[.int .u64 0, .int .u64 0, .int .u64 0, .int .u64 0] 24 (0, 0)) := by
    rw [HW0.out]
    exact heap_new3 _ _ _ _ _
  have hb0 : Below w.heap.size w W0 := by
    rw [HW0.out]
    exact (((((Below.refl _ w).alloc (Nat.le_refl _) _).alloc (by simp) _).alloc (by simp <;> omega) _).alloc (by simp <;> omega) _)
  have HXB := hideP hxb
  have HYB := hideP hyb
  have HMB := hideP hmb
  have HRB := hideP hrb
  have HB0 := hideP hb0
  clear hxb hyb hmb hrb hb0 HW0
  go_cut [8] (fun p wx => ∃ B : Nat, p = .pointer (some ⟨B, 0, none⟩) ∧ wx.heap[B]? = some (.cells #[.int .u64 z0, .int .u64 z1, .int .u64 z2, .int .u64 z3] 24 (0, 0)) ∧ W0.heap.size ≤ B ∧ Below W0.heap.size W0 wx)
  case first =>
    obtain ⟨cx0, cx1, cx2, cx3⟩ := cells4 HXB.out
    obtain ⟨cy0, cy1, cy2, cy3⟩ := cells4 HYB.out
    obtain ⟨cm0, cm1, cm2, cm3⟩ := cells4 HMB.out
    have hlx := (Array.getElem?_eq_some_iff.1 HXB.out).1
    have hly := (Array.getElem?_eq_some_iff.1 HYB.out).1
    have hlm := (Array.getElem?_eq_some_iff.1 HMB.out).1
    refine wp_region_heldS (S := fun V => Below W0.heap.size W0 V) (by kernel_rfl) (Below.refl _ _).drew (fun hS => ?_)
    refine wpAnyH_take (i := 0) (v := ?_) rfl (by kernel_rfl) (by kernel_rfl) (by kernel_rfl) (fun _ _ _ h => h) (Or.inl ⟨by rfl, ?_⟩) hS ?_
    rotate_left
    · intro V hV
      have k0 := (hV.cell (p := ⟨w.heap.size, 0, none⟩) hlx).trans cx0
      have k1 := (hV.cell (p := ⟨w.heap.size, 1, none⟩) hlx).trans cx1
      have k2 := (hV.cell (p := ⟨w.heap.size, 2, none⟩) hlx).trans cx2
      have k3 := (hV.cell (p := ⟨w.heap.size, 3, none⟩) hlx).trans cx3
      go_simp
      (try with_reducible rfl)
    simp only [Act.put, List.setIfInBounds_toArray]
    refine wpAnyH_take (i := 1) (v := ?_) rfl (by kernel_rfl) (by kernel_rfl) (by kernel_rfl) (fun _ _ _ h => h) (Or.inl ⟨by rfl, ?_⟩) hS ?_
    rotate_left
    · intro V hV
      have k0 := (hV.cell (p := ⟨w.heap.size + 1, 0, none⟩) hly).trans cy0
      have k1 := (hV.cell (p := ⟨w.heap.size + 1, 1, none⟩) hly).trans cy1
      have k2 := (hV.cell (p := ⟨w.heap.size + 1, 2, none⟩) hly).trans cy2
      have k3 := (hV.cell (p := ⟨w.heap.size + 1, 3, none⟩) hly).trans cy3
      go_simp
      (try with_reducible rfl)
    simp only [Act.put]
    refine wpAnyH_take (i := 3) (v := ?_) rfl (by kernel_rfl) (by kernel_rfl) (by kernel_rfl) (fun _ _ _ h => h) (Or.inl ⟨by rfl, ?_⟩) hS ?_
    rotate_left
    · intro V hV
      have k0 := (hV.cell (p := ⟨w.heap.size + 1 + 1, 0, none⟩) hlm).trans cm0
      have k1 := (hV.cell (p := ⟨w.heap.size + 1 + 1, 1, none⟩) hlm).trans cm1
      have k2 := (hV.cell (p := ⟨w.heap.size + 1 + 1, 2, none⟩) hlm).trans cm2
      have k3 := (hV.cell (p := ⟨w.heap.size + 1 + 1, 3, none⟩) hlm).trans cm3
      go_simp
      (try with_reducible rfl)
    simp only [Act.put]
    refine wpAnyH_ready (rs := [2, 8, 9]) (by kernel_rfl) (by simp) ?_
    refine AllReadyH.cons rfl (fun K hK => ?_) (AllReadyH.cons rfl (fun K hK => ?_) (AllReadyH.cons rfl (fun K hK => ?_) AllReadyH.nil))
    · go_simp
      refine (HW.out _).mono ?_
      rintro e U1 ⟨rfl, hbc⟩
      refine hK.out _ _ (hS.trans (hbc.mono hS.size)) (fun hS => ?_)
      clear hK K hbc
      refine wpAnyH_ready (rs := [4, 8, 9]) (by kernel_rfl) (by simp) ?_
      refine AllReadyH.cons rfl (fun K hK => ?_) (AllReadyH.cons rfl (fun K hK => ?_) (AllReadyH.cons rfl (fun K hK => ?_) AllReadyH.nil))
      · go_simp
        refine (HD.out _).mono ?_
        rintro e U2 ⟨rfl, hbc⟩
        refine hK.out _ _ (hS.trans (hbc.mono hS.size)) (fun hS => ?_)
        clear hK K hbc
        refine wpAnyH_take (i := 5) (v := ?_) rfl (by kernel_rfl) (by kernel_rfl) (by kernel_rfl) (fun _ _ _ h => h) (Or.inl ⟨by rfl, ?_⟩) hS ?_
        rotate_left
        · intro V hV
          go_simp
          (try with_reducible rfl)
        simp only [Act.put]
        refine wpAnyH_take (i := 6) (v := ?_) rfl (by kernel_rfl) (by kernel_rfl) (by kernel_rfl) (fun _ _ _ h => h) (Or.inl ⟨by rfl, ?_⟩) hS ?_
        rotate_left
        · intro V hV
          go_simp
          (try with_reducible rfl)
        simp only [Act.put]
        refine wpAnyH_take (i := 7) (v := ?_) rfl (by kernel_rfl) (by kernel_rfl) (by kernel_rfl) (fun _ _ _ h => h) (Or.inl ⟨by rfl, ?_⟩) hS ?_
        rotate_left
        · intro V hV
          go_simp
          (try with_reducible rfl)
        simp only [Act.put]
        refine wpAnyH_ready (rs := [8, 9]) (by kernel_rfl) (by simp) ?_
        refine AllReadyH.cons rfl (fun K hK => ?_) (AllReadyH.cons rfl (fun K hK => ?_) AllReadyH.nil)
        · go_simp
          obtain ⟨B8, hBe⟩ : ∃ B8, B8 = U2.heap.size := ⟨_, rfl⟩
          have hZ8 : (U2.alloc (.cells #[.int .u64 0, .int .u64 0, .int .u64 0, .int .u64 0, .int .u64 0, .int .u64 0, .int .u64 0, .int .u64 0] 36)).heap[B8]? = some (.cells #[.int .u64 0, .int .u64 0, .int .u64 0, .int .u64 0, .int .u64 0, .int .u64 0, .int .u64 0, .int .u64 0] 36 (0, 0)) := by rw [hBe]; exact heap_new _ _
          have hL8 : W0.heap.size ≤ B8 := by rw [hBe]; exact hS.size
          have hSA : Below W0.heap.size W0 (U2.alloc (.cells #[.int .u64 0, .int .u64 0, .int .u64 0, .int .u64 0, .int .u64 0, .int .u64 0, .int .u64 0, .int .u64 0] 36)) := hS.alloc hS.size _
          rw [← hBe]
          have hLT8 : B8 < (U2.alloc (.cells #[.int .u64 0, .int .u64 0, .int .u64 0, .int .u64 0, .int .u64 0, .int .u64 0, .int .u64 0, .int .u64 0] 36)).heap.size := (Array.getElem?_eq_some_iff.1 hZ8).1
          generalize (U2.alloc (.cells #[.int .u64 0, .int .u64 0, .int .u64 0, .int .u64 0, .int .u64 0, .int .u64 0, .int .u64 0, .int .u64 0] 36)) = U3 at hZ8  hSA hLT8  ⊢
          refine hK.out _ _ hSA (fun hS => ?_)
          clear hK K hSA hBe
          refine wpAnyH_ready (rs := [9]) (by kernel_rfl) (by simp) ?_
          refine AllReadyH.cons rfl (fun K hK => ?_) AllReadyH.nil
          · go_simp
            obtain ⟨B9, hBe⟩ : ∃ B9, B9 = U3.heap.size := ⟨_, rfl⟩
            have hZ9 : (U3.alloc (.cells #[.int .u64 0, .int .u64 0, .int .u64 0, .int .u64 0] 24)).heap[B9]? = some (.cells #[.int .u64 0, .int .u64 0, .int .u64 0, .int .u64 0] 24 (0, 0)) := by rw [hBe]; exact heap_new _ _
            have hL9 : W0.heap.size ≤ B9 := by rw [hBe]; exact hS.size
            have hSA : Below W0.heap.size W0 (U3.alloc (.cells #[.int .u64 0, .int .u64 0, .int .u64 0, .int .u64 0] 24)) := hS.alloc hS.size _
            have hY8 : (U3.alloc (.cells #[.int .u64 0, .int .u64 0, .int .u64 0, .int .u64 0] 24)).heap[B8]? = _ := (heap_old _ _ (Array.getElem?_eq_some_iff.1 hZ8).1).trans hZ8
            clear hZ8
            have hZ8 := hY8
            clear hY8
            have hN98 : B8 ≠ B9 := by rw [hBe]; exact Nat.ne_of_lt (hLT8)
            rw [← hBe]
            have hLT9 : B9 < (U3.alloc (.cells #[.int .u64 0, .int .u64 0, .int .u64 0, .int .u64 0] 24)).heap.size := (Array.getElem?_eq_some_iff.1 hZ9).1
            have hQ8 : B8 < (U3.alloc (.cells #[.int .u64 0, .int .u64 0, .int .u64 0, .int .u64 0] 24)).heap.size := (Array.getElem?_eq_some_iff.1 hZ8).1
            clear hLT8
            have hLT8 := hQ8
            clear hQ8
            generalize (U3.alloc (.cells #[.int .u64 0, .int .u64 0, .int .u64 0, .int .u64 0] 24)) = U4 at hZ9 hZ8 hSA hLT9 hLT8 ⊢
            refine hK.out _ _ hSA (fun hS => ?_)
            clear hK K hSA hBe
            obtain ⟨a0, a1, a2, a3, a4, a5, a6, a7⟩ := cells8 hZ8
            have fa : ∀ o, U4.frozen? ⟨B8, o, none⟩ = false := fun o => blk_free hZ8
            refine wpAnyH_ready (rs := [10]) (by kernel_rfl) (by simp) (AllReadyH.cons rfl (fun K hK => ?_) AllReadyH.nil)
            go_simp
            have g8 := stored8 (z0 := .int .u64 q0) (z1 := .int .u64 q1) (z2 := .int .u64 q2) (z3 := .int .u64 q3) (z4 := .int .u64 q4) (z5 := .int .u64 q5) (z6 := .int .u64 q6) (z7 := .int .u64 q7) hZ8
            have hSB := below_stored8 (b := B8) (z0 := .int .u64 q0) (z1 := .int .u64 q1) (z2 := .int .u64 q2) (z3 := .int .u64 q3) (z4 := .int .u64 q4) (z5 := .int .u64 q5) (z6 := .int .u64 q6) (z7 := .int .u64 q7) hS hL8
            have o9 := (other8 (b := B8) (c := B9) (z0 := .int .u64 q0) (z1 := .int .u64 q1) (z2 := .int .u64 q2) (z3 := .int .u64 q3) (z4 := .int .u64 q4) (z5 := .int .u64 q5) (z6 := .int .u64 q6) (z7 := .int .u64 q7) (by first | exact hN98 | exact (hN98).symm | exact hN89 | exact (hN89).symm)).trans hZ9
            clear hZ9
            have hZ9 := o9
            clear o9
            generalize ((((((((U4.setCell ⟨B8, 0, none⟩ (.int .u64 q0)).setCell ⟨B8, 1, none⟩ (.int .u64 q1)).setCell ⟨B8, 2, none⟩ (.int .u64 q2)).setCell ⟨B8, 3, none⟩ (.int .u64 q3)).setCell ⟨B8, 4, none⟩ (.int .u64 q4)).setCell ⟨B8, 5, none⟩ (.int .u64 q5)).setCell ⟨B8, 6, none⟩ (.int .u64 q6)).setCell ⟨B8, 7, none⟩ (.int .u64 q7)) = U4x at g8 hSB hZ9 ⊢
            refine hK.out _ _ hSB (fun hS => ?_)
            clear hK K hSB a0 a1 a2 a3 a4 a5 a6 a7 fa hZ8
            obtain ⟨a0, a1, a2, a3⟩ := cells4 hZ9
            have fa : ∀ o, U4x.frozen? ⟨B9, o, none⟩ = false := fun o => blk_free hZ9
            refine wpAnyH_ready (rs := [11]) (by kernel_rfl) (by simp) (AllReadyH.cons rfl (fun K hK => ?_) AllReadyH.nil)
            go_simp
            have g9 := stored4 (z0 := .int .u64 z0) (z1 := .int .u64 z1) (z2 := .int .u64 z2) (z3 := .int .u64 z3) hZ9
            have hSB := below_stored4 (b := B9) (z0 := .int .u64 z0) (z1 := .int .u64 z1) (z2 := .int .u64 z2) (z3 := .int .u64 z3) hS hL9
            have o8 := (other4 (b := B9) (c := B8) (z0 := .int .u64 z0) (z1 := .int .u64 z1) (z2 := .int .u64 z2) (z3 := .int .u64 z3) (by first | exact hN89 | exact (hN89).symm | exact hN98 | exact (hN98).symm)).trans g8
            clear g8
            have g8 := o8
            clear o8
            generalize ((((U4x.setCell ⟨B9, 0, none⟩ (.int .u64 z0)).setCell ⟨B9, 1, none⟩ (.int .u64 z1)).setCell ⟨B9, 2, none⟩ (.int .u64 z2)).setCell ⟨B9, 3, none⟩ (.int .u64 z3)) = U4xx at g9 hSB g8 ⊢
            refine hK.out _ _ hSB (fun hS => wpAnyH_done (by kernel_rfl) ?_ _)
            clear hK K
            go_wp2_with fail
            go_meet
            exact ⟨B9, rfl, g9, hL9, hSB⟩
        · go_simp
          obtain ⟨B9, hBe⟩ : ∃ B9, B9 = U2.heap.size := ⟨_, rfl⟩
          have hZ9 : (U2.alloc (.cells #[.int .u64 0, .int .u64 0, .int .u64 0, .int .u64 0] 24)).heap[B9]? = some (.cells #[.int .u64 0, .int .u64 0, .int .u64 0, .int .u64 0] 24 (0, 0)) := by rw [hBe]; exact heap_new _ _
          have hL9 : W0.heap.size ≤ B9 := by rw [hBe]; exact hS.size
          have hSA : Below W0.heap.size W0 (U2.alloc (.cells #[.int .u64 0, .int .u64 0, .int .u64 0, .int .u64 0] 24)) := hS.alloc hS.size _
          rw [← hBe]
          have hLT9 : B9 < (U2.alloc (.cells #[.int .u64 0, .int .u64 0, .int .u64 0, .int .u64 0] 24)).heap.size := (Array.getElem?_eq_some_iff.1 hZ9).1
          generalize (U2.alloc (.cells #[.int .u64 0, .int .u64 0, .int .u64 0, .int .u64 0] 24)) = U5 at hZ9  hSA hLT9  ⊢
          refine hK.out _ _ hSA (fun hS => ?_)
          clear hK K hSA hBe
          refine wpAnyH_ready (rs := [8]) (by kernel_rfl) (by simp) ?_
          refine AllReadyH.cons rfl (fun K hK => ?_) AllReadyH.nil
          · go_simp
            obtain ⟨B8, hBe⟩ : ∃ B8, B8 = U5.heap.size := ⟨_, rfl⟩
            have hZ8 : (U5.alloc (.cells #[.int .u64 0, .int .u64 0, .int .u64 0, .int .u64 0, .int .u64 0, .int .u64 0, .int .u64 0, .int .u64 0] 36)).heap[B8]? = some (.cells #[.int .u64 0, .int .u64 0, .int .u64 0, .int .u64 0, .int .u64 0, .int .u64 0, .int .u64 0, .int .u64 0] 36 (0, 0)) := by rw [hBe]; exact heap_new _ _
            have hL8 : W0.heap.size ≤ B8 := by rw [hBe]; exact hS.size
            have hSA : Below W0.heap.size W0 (U5.alloc (.cells #[.int .u64 0, .int .u64 0, .int .u64 0, .int .u64 0, .int .u64 0, .int .u64 0, .int .u64 0, .int .u64 0] 36)) := hS.alloc hS.size _
            have hY9 : (U5.alloc (.cells #[.int .u64 0, .int .u64 0, .int .u64 0, .int .u64 0, .int .u64 0, .int .u64 0, .int .u64 0, .int .u64 0] 36)).heap[B9]? = _ := (heap_old _ _ (Array.getElem?_eq_some_iff.1 hZ9).1).trans hZ9
            clear hZ9
            have hZ9 := hY9
            clear hY9
            have hN89 : B9 ≠ B8 := by rw [hBe]; exact Nat.ne_of_lt (hLT9)
            rw [← hBe]
            have hLT8 : B8 < (U5.alloc (.cells #[.int .u64 0, .int .u64 0, .int .u64 0, .int .u64 0, .int .u64 0, .int .u64 0, .int .u64 0, .int .u64 0] 36)).heap.size := (Array.getElem?_eq_some_iff.1 hZ8).1
            have hQ9 : B9 < (U5.alloc (.cells #[.int .u64 0, .int .u64 0, .int .u64 0, .int .u64 0, .int .u64 0, .int .u64 0, .int .u64 0, .int .u64 0] 36)).heap.size := (Array.getElem?_eq_some_iff.1 hZ9).1
            clear hLT9
            have hLT9 := hQ9
            clear hQ9
            generalize (U5.alloc (.cells #[.int .u64 0, .int .u64 0, .int .u64 0, .int .u64 0, .int .u64 0, .int .u64 0, .int .u64 0, .int .u64 0] 36)) = U6 at hZ8 hZ9 hSA hLT8 hLT9 ⊢
            refine hK.out _ _ hSA (fun hS => ?_)
            clear hK K hSA hBe
            obtain ⟨a0, a1, a2, a3, a4, a5, a6, a7⟩ := cells8 hZ8
            have fa : ∀ o, U6.frozen? ⟨B8, o, none⟩ = false := fun o => blk_free hZ8
            refine wpAnyH_ready (rs := [10]) (by kernel_rfl) (by simp) (AllReadyH.cons rfl (fun K hK => ?_) AllReadyH.nil)
            go_simp
            have g8 := stored8 (z0 := .int .u64 q0) (z1 := .int .u64 q1) (z2 := .int .u64 q2) (z3 := .int .u64 q3) (z4 := .int .u64 q4) (z5 := .int .u64 q5) (z6 := .int .u64 q6) (z7 := .int .u64 q7) hZ8
            have hSB := below_stored8 (b := B8) (z0 := .int .u64 q0) (z1 := .int .u64 q1) (z2 := .int .u64 q2) (z3 := .int .u64 q3) (z4 := .int .u64 q4) (z5 := .int .u64 q5) (z6 := .int .u64 q6) (z7 := .int .u64 q7) hS hL8
            have o9 := (other8 (b := B8) (c := B9) (z0 := .int .u64 q0) (z1 := .int .u64 q1) (z2 := .int .u64 q2) (z3 := .int .u64 q3) (z4 := .int .u64 q4) (z5 := .int .u64 q5) (z6 := .int .u64 q6) (z7 := .int .u64 q7) (by first | exact hN98 | exact (hN98).symm | exact hN89 | exact (hN89).symm)).trans hZ9
            clear hZ9
            have hZ9 := o9
            clear o9
            generalize ((((((((U6.setCell ⟨B8, 0, none⟩ (.int .u64 q0)).setCell ⟨B8, 1, none⟩ (.int .u64 q1)).setCell ⟨B8, 2, none⟩ (.int .u64 q2)).setCell ⟨B8, 3, none⟩ (.int .u64 q3)).setCell ⟨B8, 4, none⟩ (.int .u64 q4)).setCell ⟨B8, 5, none⟩ (.int .u64 q5)).setCell ⟨B8, 6, none⟩ (.int .u64 q6)).setCell ⟨B8, 7, none⟩ (.int .u64 q7)) = U6x at g8 hSB hZ9 ⊢
            refine hK.out _ _ hSB (fun hS => ?_)
            clear hK K hSB a0 a1 a2 a3 a4 a5 a6 a7 fa hZ8
            obtain ⟨a0, a1, a2, a3⟩ := cells4 hZ9
            have fa : ∀ o, U6x.frozen? ⟨B9, o, none⟩ = false := fun o => blk_free hZ9
            refine wpAnyH_ready (rs := [11]) (by kernel_rfl) (by simp) (AllReadyH.cons rfl (fun K hK => ?_) AllReadyH.nil)
            go_simp
            have g9 := stored4 (z0 := .int .u64 z0) (z1 := .int .u64 z1) (z2 := .int .u64 z2) (z3 := .int .u64 z3) hZ9
            have hSB := below_stored4 (b := B9) (z0 := .int .u64 z0) (z1 := .int .u64 z1) (z2 := .int .u64 z2) (z3 := .int .u64 z3) hS hL9
            have o8 := (other4 (b := B9) (c := B8) (z0 := .int .u64 z0) (z1 := .int .u64 z1) (z2 := .int .u64 z2) (z3 := .int .u64 z3) (by first | exact hN89 | exact (hN89).symm | exact hN98 | exact (hN98).symm)).trans g8
            clear g8
            have g8 := o8
            clear o8
            generalize ((((U6x.setCell ⟨B9, 0, none⟩ (.int .u64 z0)).setCell ⟨B9, 1, none⟩ (.int .u64 z1)).setCell ⟨B9, 2, none⟩ (.int .u64 z2)).setCell ⟨B9, 3, none⟩ (.int .u64 z3)) = U6xx at g9 hSB g8 ⊢
            refine hK.out _ _ hSB (fun hS => wpAnyH_done (by kernel_rfl) ?_ _)
            clear hK K
            go_wp2_with fail
            go_meet
            exact ⟨B9, rfl, g9, hL9, hSB⟩
      · go_simp
        obtain ⟨B8, hBe⟩ : ∃ B8, B8 = U1.heap.size := ⟨_, rfl⟩
        have hZ8 : (U1.alloc (.cells #[.int .u64 0, .int .u64 0, .int .u64 0, .int .u64 0, .int .u64 0, .int .u64 0, .int .u64 0, .int .u64 0] 36)).heap[B8]? = some (.cells #[.int .u64 0, .int .u64 0, .int .u64 0, .int .u64 0, .int .u64 0, .int .u64 0, .int .u64 0, .int .u64 0] 36 (0, 0)) := by rw [hBe]; exact heap_new _ _
        have hL8 : W0.heap.size ≤ B8 := by rw [hBe]; exact hS.size
        have hSA : Below W0.heap.size W0 (U1.alloc (.cells #[.int .u64 0, .int .u64 0, .int .u64 0, .int .u64 0, .int .u64 0, .int .u64 0, .int .u64 0, .int .u64 0] 36)) := hS.alloc hS.size _
        rw [← hBe]
        have hLT8 : B8 < (U1.alloc (.cells #[.int .u64 0, .int .u64 0, .int .u64 0, .int .u64 0, .int .u64 0, .int .u64 0, .int .u64 0, .int .u64 0] 36)).heap.size := (Array.getElem?_eq_some_iff.1 hZ8).1
        generalize (U1.alloc (.cells #[.int .u64 0, .int .u64 0, .int .u64 0, .int .u64 0, .int .u64 0, .int .u64 0, .int .u64 0, .int .u64 0] 36)) = U7 at hZ8  hSA hLT8  ⊢
        refine hK.out _ _ hSA (fun hS => ?_)
        clear hK K hSA hBe
        refine wpAnyH_ready (rs := [4, 9]) (by kernel_rfl) (by simp) ?_
        refine AllReadyH.cons rfl (fun K hK => ?_) (AllReadyH.cons rfl (fun K hK => ?_) AllReadyH.nil)
        · go_simp
          refine (HD.out _).mono ?_
          rintro e U8 ⟨rfl, hbc⟩
          refine hK.out _ _ (hS.trans (hbc.mono hS.size)) (fun hS => ?_)
          replace hZ8 := (hbc.block B8 (Array.getElem?_eq_some_iff.1 hZ8).1).trans hZ8
          replace hLT8 := (Array.getElem?_eq_some_iff.1 hZ8).1
          clear hK K hbc
          refine wpAnyH_take (i := 5) (v := ?_) rfl (by kernel_rfl) (by kernel_rfl) (by kernel_rfl) (fun _ _ _ h => h) (Or.inl ⟨by rfl, ?_⟩) hS ?_
          rotate_left
          · intro V hV
            go_simp
            (try with_reducible rfl)
          simp only [Act.put]
          refine wpAnyH_take (i := 6) (v := ?_) rfl (by kernel_rfl) (by kernel_rfl) (by kernel_rfl) (fun _ _ _ h => h) (Or.inl ⟨by rfl, ?_⟩) hS ?_
          rotate_left
          · intro V hV
            go_simp
            (try with_reducible rfl)
          simp only [Act.put]
          refine wpAnyH_take (i := 7) (v := ?_) rfl (by kernel_rfl) (by kernel_rfl) (by kernel_rfl) (fun _ _ _ h => h) (Or.inl ⟨by rfl, ?_⟩) hS ?_
          rotate_left
          · intro V hV
            go_simp
            (try with_reducible rfl)
          simp only [Act.put]
          refine wpAnyH_ready (rs := [9]) (by kernel_rfl) (by simp) ?_
          refine AllReadyH.cons rfl (fun K hK => ?_) AllReadyH.nil
          · go_simp
            obtain ⟨B9, hBe⟩ : ∃ B9, B9 = U8.heap.size := ⟨_, rfl⟩
            have hZ9 : (U8.alloc (.cells #[.int .u64 0, .int .u64 0, .int .u64 0, .int .u64 0] 24)).heap[B9]? = some (.cells #[.int .u64 0, .int .u64 0, .int .u64 0, .int .u64 0] 24 (0, 0)) := by rw [hBe]; exact heap_new _ _
            have hL9 : W0.heap.size ≤ B9 := by rw [hBe]; exact hS.size
            have hSA : Below W0.heap.size W0 (U8.alloc (.cells #[.int .u64 0, .int .u64 0, .int .u64 0, .int .u64 0] 24)) := hS.alloc hS.size _
            have hY8 : (U8.alloc (.cells #[.int .u64 0, .int .u64 0, .int .u64 0, .int .u64 0] 24)).heap[B8]? = _ := (heap_old _ _ (Array.getElem?_eq_some_iff.1 hZ8).1).trans hZ8
            clear hZ8
            have hZ8 := hY8
            clear hY8
            have hN98 : B8 ≠ B9 := by rw [hBe]; exact Nat.ne_of_lt (hLT8)
            rw [← hBe]
            have hLT9 : B9 < (U8.alloc (.cells #[.int .u64 0, .int .u64 0, .int .u64 0, .int .u64 0] 24)).heap.size := (Array.getElem?_eq_some_iff.1 hZ9).1
            have hQ8 : B8 < (U8.alloc (.cells #[.int .u64 0, .int .u64 0, .int .u64 0, .int .u64 0] 24)).heap.size := (Array.getElem?_eq_some_iff.1 hZ8).1
            clear hLT8
            have hLT8 := hQ8
            clear hQ8
            generalize (U8.alloc (.cells #[.int .u64 0, .int .u64 0, .int .u64 0, .int .u64 0] 24)) = U9 at hZ9 hZ8 hSA hLT9 hLT8 ⊢
            refine hK.out _ _ hSA (fun hS => ?_)
            clear hK K hSA hBe
            obtain ⟨a0, a1, a2, a3, a4, a5, a6, a7⟩ := cells8 hZ8
            have fa : ∀ o, U9.frozen? ⟨B8, o, none⟩ = false := fun o => blk_free hZ8
            refine wpAnyH_ready (rs := [10]) (by kernel_rfl) (by simp) (AllReadyH.cons rfl (fun K hK => ?_) AllReadyH.nil)
            go_simp
            have g8 := stored8 (z0 := .int .u64 q0) (z1 := .int .u64 q1) (z2 := .int .u64 q2) (z3 := .int .u64 q3) (z4 := .int .u64 q4) (z5 := .int .u64 q5) (z6 := .int .u64 q6) (z7 := .int .u64 q7) hZ8
            have hSB := below_stored8 (b := B8) (z0 := .int .u64 q0) (z1 := .int .u64 q1) (z2 := .int .u64 q2) (z3 := .int .u64 q3) (z4 := .int .u64 q4) (z5 := .int .u64 q5) (z6 := .int .u64 q6) (z7 := .int .u64 q7) hS hL8
            have o9 := (other8 (b := B8) (c := B9) (z0 := .int .u64 q0) (z1 := .int .u64 q1) (z2 := .int .u64 q2) (z3 := .int .u64 q3) (z4 := .int .u64 q4) (z5 := .int .u64 q5) (z6 := .int .u64 q6) (z7 := .int .u64 q7) (by first | exact hN98 | exact (hN98).symm | exact hN89 | exact (hN89).symm)).trans hZ9
            clear hZ9
            have hZ9 := o9
            clear o9
            generalize ((((((((U9.setCell ⟨B8, 0, none⟩ (.int .u64 q0)).setCell ⟨B8, 1, none⟩ (.int .u64 q1)).setCell ⟨B8, 2, none⟩ (.int .u64 q2)).setCell ⟨B8, 3, none⟩ (.int .u64 q3)).setCell ⟨B8, 4, none⟩ (.int .u64 q4)).setCell ⟨B8, 5, none⟩ (.int .u64 q5)).setCell ⟨B8, 6, none⟩ (.int .u64 q6)).setCell ⟨B8, 7, none⟩ (.int .u64 q7)) = U9x at g8 hSB hZ9 ⊢
            refine hK.out _ _ hSB (fun hS => ?_)
            clear hK K hSB a0 a1 a2 a3 a4 a5 a6 a7 fa hZ8
            obtain ⟨a0, a1, a2, a3⟩ := cells4 hZ9
            have fa : ∀ o, U9x.frozen? ⟨B9, o, none⟩ = false := fun o => blk_free hZ9
            refine wpAnyH_ready (rs := [11]) (by kernel_rfl) (by simp) (AllReadyH.cons rfl (fun K hK => ?_) AllReadyH.nil)
            go_simp
            have g9 := stored4 (z0 := .int .u64 z0) (z1 := .int .u64 z1) (z2 := .int .u64 z2) (z3 := .int .u64 z3) hZ9
            have hSB := below_stored4 (b := B9) (z0 := .int .u64 z0) (z1 := .int .u64 z1) (z2 := .int .u64 z2) (z3 := .int .u64 z3) hS hL9
            have o8 := (other4 (b := B9) (c := B8) (z0 := .int .u64 z0) (z1 := .int .u64 z1) (z2 := .int .u64 z2) (z3 := .int .u64 z3) (by first | exact hN89 | exact (hN89).symm | exact hN98 | exact (hN98).symm)).trans g8
            clear g8
            have g8 := o8
            clear o8
            generalize ((((U9x.setCell ⟨B9, 0, none⟩ (.int .u64 z0)).setCell ⟨B9, 1, none⟩ (.int .u64 z1)).setCell ⟨B9, 2, none⟩ (.int .u64 z2)).setCell ⟨B9, 3, none⟩ (.int .u64 z3)) = U9xx at g9 hSB g8 ⊢
            refine hK.out _ _ hSB (fun hS => wpAnyH_done (by kernel_rfl) ?_ _)
            clear hK K
            go_wp2_with fail
            go_meet
            exact ⟨B9, rfl, g9, hL9, hSB⟩
        · go_simp
          obtain ⟨B9, hBe⟩ : ∃ B9, B9 = U7.heap.size := ⟨_, rfl⟩
          have hZ9 : (U7.alloc (.cells #[.int .u64 0, .int .u64 0, .int .u64 0, .int .u64 0] 24)).heap[B9]? = some (.cells #[.int .u64 0, .int .u64 0, .int .u64 0, .int .u64 0] 24 (0, 0)) := by rw [hBe]; exact heap_new _ _
          have hL9 : W0.heap.size ≤ B9 := by rw [hBe]; exact hS.size
          have hSA : Below W0.heap.size W0 (U7.alloc (.cells #[.int .u64 0, .int .u64 0, .int .u64 0, .int .u64 0] 24)) := hS.alloc hS.size _
          have hY8 : (U7.alloc (.cells #[.int .u64 0, .int .u64 0, .int .u64 0, .int .u64 0] 24)).heap[B8]? = _ := (heap_old _ _ (Array.getElem?_eq_some_iff.1 hZ8).1).trans hZ8
          clear hZ8
          have hZ8 := hY8
          clear hY8
          have hN98 : B8 ≠ B9 := by rw [hBe]; exact Nat.ne_of_lt (hLT8)
          rw [← hBe]
          have hLT9 : B9 < (U7.alloc (.cells #[.int .u64 0, .int .u64 0, .int .u64 0, .int .u64 0] 24)).heap.size := (Array.getElem?_eq_some_iff.1 hZ9).1
          have hQ8 : B8 < (U7.alloc (.cells #[.int .u64 0, .int .u64 0, .int .u64 0, .int .u64 0] 24)).heap.size := (Array.getElem?_eq_some_iff.1 hZ8).1
          clear hLT8
          have hLT8 := hQ8
          clear hQ8
          generalize (U7.alloc (.cells #[.int .u64 0, .int .u64 0, .int .u64 0, .int .u64 0] 24)) = U10 at hZ9 hZ8 hSA hLT9 hLT8 ⊢
          refine hK.out _ _ hSA (fun hS => ?_)
          clear hK K hSA hBe
          refine wpAnyH_ready (rs := [4]) (by kernel_rfl) (by simp) ?_
          refine AllReadyH.cons rfl (fun K hK => ?_) AllReadyH.nil
          · go_simp
            refine (HD.out _).mono ?_
            rintro e U11 ⟨rfl, hbc⟩
            refine hK.out _ _ (hS.trans (hbc.mono hS.size)) (fun hS => ?_)
            replace hZ8 := (hbc.block B8 (Array.getElem?_eq_some_iff.1 hZ8).1).trans hZ8
            replace hLT8 := (Array.getElem?_eq_some_iff.1 hZ8).1
            replace hZ9 := (hbc.block B9 (Array.getElem?_eq_some_iff.1 hZ9).1).trans hZ9
            replace hLT9 := (Array.getElem?_eq_some_iff.1 hZ9).1
            clear hK K hbc
            refine wpAnyH_take (i := 5) (v := ?_) rfl (by kernel_rfl) (by kernel_rfl) (by kernel_rfl) (fun _ _ _ h => h) (Or.inl ⟨by rfl, ?_⟩) hS ?_
            rotate_left
            · intro V hV
              go_simp
              (try with_reducible rfl)
            simp only [Act.put]
            refine wpAnyH_take (i := 6) (v := ?_) rfl (by kernel_rfl) (by kernel_rfl) (by kernel_rfl) (fun _ _ _ h => h) (Or.inl ⟨by rfl, ?_⟩) hS ?_
            rotate_left
            · intro V hV
              go_simp
              (try with_reducible rfl)
            simp only [Act.put]
            refine wpAnyH_take (i := 7) (v := ?_) rfl (by kernel_rfl) (by kernel_rfl) (by kernel_rfl) (fun _ _ _ h => h) (Or.inl ⟨by rfl, ?_⟩) hS ?_
            rotate_left
            · intro V hV
              go_simp
              (try with_reducible rfl)
            simp only [Act.put]
            obtain ⟨a0, a1, a2, a3, a4, a5, a6, a7⟩ := cells8 hZ8
            have fa : ∀ o, U11.frozen? ⟨B8, o, none⟩ = false := fun o => blk_free hZ8
            refine wpAnyH_ready (rs := [10]) (by kernel_rfl) (by simp) (AllReadyH.cons rfl (fun K hK => ?_) AllReadyH.nil)
            go_simp
            have g8 := stored8 (z0 := .int .u64 q0) (z1 := .int .u64 q1) (z2 := .int .u64 q2) (z3 := .int .u64 q3) (z4 := .int .u64 q4) (z5 := .int .u64 q5) (z6 := .int .u64 q6) (z7 := .int .u64 q7) hZ8
            have hSB := below_stored8 (b := B8) (z0 := .int .u64 q0) (z1 := .int .u64 q1) (z2 := .int .u64 q2) (z3 := .int .u64 q3) (z4 := .int .u64 q4) (z5 := .int .u64 q5) (z6 := .int .u64 q6) (z7 := .int .u64 q7) hS hL8
            have o9 := (other8 (b := B8) (c := B9) (z0 := .int .u64 q0) (z1 := .int .u64 q1) (z2 := .int .u64 q2) (z3 := .int .u64 q3) (z4 := .int .u64 q4) (z5 := .int .u64 q5) (z6 := .int .u64 q6) (z7 := .int .u64 q7) (by first | exact hN98 | exact (hN98).symm | exact hN89 | exact (hN89).symm)).trans hZ9
            clear hZ9
            have hZ9 := o9
            clear o9
            generalize ((((((((U11.setCell ⟨B8, 0, none⟩ (.int .u64 q0)).setCell ⟨B8, 1, none⟩ (.int .u64 q1)).setCell ⟨B8, 2, none⟩ (.int .u64 q2)).setCell ⟨B8, 3, none⟩ (.int .u64 q3)).setCell ⟨B8, 4, none⟩ (.int .u64 q4)).setCell ⟨B8, 5, none⟩ (.int .u64 q5)).setCell ⟨B8, 6, none⟩ (.int .u64 q6)).setCell ⟨B8, 7, none⟩ (.int .u64 q7)) = U11x at g8 hSB hZ9 ⊢
            refine hK.out _ _ hSB (fun hS => ?_)
            clear hK K hSB a0 a1 a2 a3 a4 a5 a6 a7 fa hZ8
            obtain ⟨a0, a1, a2, a3⟩ := cells4 hZ9
            have fa : ∀ o, U11x.frozen? ⟨B9, o, none⟩ = false := fun o => blk_free hZ9
            refine wpAnyH_ready (rs := [11]) (by kernel_rfl) (by simp) (AllReadyH.cons rfl (fun K hK => ?_) AllReadyH.nil)
            go_simp
            have g9 := stored4 (z0 := .int .u64 z0) (z1 := .int .u64 z1) (z2 := .int .u64 z2) (z3 := .int .u64 z3) hZ9
            have hSB := below_stored4 (b := B9) (z0 := .int .u64 z0) (z1 := .int .u64 z1) (z2 := .int .u64 z2) (z3 := .int .u64 z3) hS hL9
            have o8 := (other4 (b := B9) (c := B8) (z0 := .int .u64 z0) (z1 := .int .u64 z1) (z2 := .int .u64 z2) (z3 := .int .u64 z3) (by first | exact hN89 | exact (hN89).symm | exact hN98 | exact (hN98).symm)).trans g8
            clear g8
            have g8 := o8
            clear o8
            generalize ((((U11x.setCell ⟨B9, 0, none⟩ (.int .u64 z0)).setCell ⟨B9, 1, none⟩ (.int .u64 z1)).setCell ⟨B9, 2, none⟩ (.int .u64 z2)).setCell ⟨B9, 3, none⟩ (.int .u64 z3)) = U11xx at g9 hSB g8 ⊢
            refine hK.out _ _ hSB (fun hS => wpAnyH_done (by kernel_rfl) ?_ _)
            clear hK K
            go_wp2_with fail
            go_meet
            exact ⟨B9, rfl, g9, hL9, hSB⟩
      · go_simp
        obtain ⟨B9, hBe⟩ : ∃ B9, B9 = U1.heap.size := ⟨_, rfl⟩
        have hZ9 : (U1.alloc (.cells #[.int .u64 0, .int .u64 0, .int .u64 0, .int .u64 0] 24)).heap[B9]? = some (.cells #[.int .u64 0, .int .u64 0, .int .u64 0, .int .u64 0] 24 (0, 0)) := by rw [hBe]; exact heap_new _ _
        have hL9 : W0.heap.size ≤ B9 := by rw [hBe]; exact hS.size
        have hSA : Below W0.heap.size W0 (U1.alloc (.cells #[.int .u64 0, .int .u64 0, .int .u64 0, .int .u64 0] 24)) := hS.alloc hS.size _
        rw [← hBe]
        have hLT9 : B9 < (U1.alloc (.cells #[.int .u64 0, .int .u64 0, .int .u64 0, .int .u64 0] 24)).heap.size := (Array.getElem?_eq_some_iff.1 hZ9).1
        generalize (U1.alloc (.cells #[.int .u64 0, .int .u64 0, .int .u64 0, .int .u64 0] 24)) = U12 at hZ9  hSA hLT9  ⊢
        refine hK.out _ _ hSA (fun hS => ?_)
        clear hK K hSA hBe
        refine wpAnyH_ready (rs := [4, 8]) (by kernel_rfl) (by simp) ?_
        refine AllReadyH.cons rfl (fun K hK => ?_) (AllReadyH.cons rfl (fun K hK => ?_) AllReadyH.nil)
        · go_simp
          refine (HD.out _).mono ?_
          rintro e U13 ⟨rfl, hbc⟩
          refine hK.out _ _ (hS.trans (hbc.mono hS.size)) (fun hS => ?_)
          replace hZ9 := (hbc.block B9 (Array.getElem?_eq_some_iff.1 hZ9).1).trans hZ9
          replace hLT9 := (Array.getElem?_eq_some_iff.1 hZ9).1
          clear hK K hbc
          refine wpAnyH_take (i := 5) (v := ?_) rfl (by kernel_rfl) (by kernel_rfl) (by kernel_rfl) (fun _ _ _ h => h) (Or.inl ⟨by rfl, ?_⟩) hS ?_
          rotate_left
          · intro V hV
            go_simp
            (try with_reducible rfl)
          simp only [Act.put]
          refine wpAnyH_take (i := 6) (v := ?_) rfl (by kernel_rfl) (by kernel_rfl) (by kernel_rfl) (fun _ _ _ h => h) (Or.inl ⟨by rfl, ?_⟩) hS ?_
          rotate_left
          · intro V hV
            go_simp
            (try with_reducible rfl)
          simp only [Act.put]
          refine wpAnyH_take (i := 7) (v := ?_) rfl (by kernel_rfl) (by kernel_rfl) (by kernel_rfl) (fun _ _ _ h => h) (Or.inl ⟨by rfl, ?_⟩) hS ?_
          rotate_left
          · intro V hV
            go_simp
            (try with_reducible rfl)
          simp only [Act.put]
          refine wpAnyH_ready (rs := [8]) (by kernel_rfl) (by simp) ?_
          refine AllReadyH.cons rfl (fun K hK => ?_) AllReadyH.nil
          · go_simp
            obtain ⟨B8, hBe⟩ : ∃ B8, B8 = U13.heap.size := ⟨_, rfl⟩
            have hZ8 : (U13.alloc (.cells #[.int .u64 0, .int .u64 0, .int .u64 0, .int .u64 0, .int .u64 0, .int .u64 0, .int .u64 0, .int .u64 0] 36)).heap[B8]? = some (.cells #[.int .u64 0, .int .u64 0, .int .u64 0, .int .u64 0, .int .u64 0, .int .u64 0, .int .u64 0, .int .u64 0] 36 (0, 0)) := by rw [hBe]; exact heap_new _ _
            have hL8 : W0.heap.size ≤ B8 := by rw [hBe]; exact hS.size
            have hSA : Below W0.heap.size W0 (U13.alloc (.cells #[.int .u64 0, .int .u64 0, .int .u64 0, .int .u64 0, .int .u64 0, .int .u64 0, .int .u64 0, .int .u64 0] 36)) := hS.alloc hS.size _
            have hY9 : (U13.alloc (.cells #[.int .u64 0, .int .u64 0, .int .u64 0, .int .u64 0, .int .u64 0, .int .u64 0, .int .u64 0, .int .u64 0] 36)).heap[B9]? = _ := (heap_old _ _ (Array.getElem?_eq_some_iff.1 hZ9).1).trans hZ9
            clear hZ9
            have hZ9 := hY9
            clear hY9
            have hN89 : B9 ≠ B8 := by rw [hBe]; exact Nat.ne_of_lt (hLT9)
            rw [← hBe]
            have hLT8 : B8 < (U13.alloc (.cells #[.int .u64 0, .int .u64 0, .int .u64 0, .int .u64 0, .int .u64 0, .int .u64 0, .int .u64 0, .int .u64 0] 36)).heap.size := (Array.getElem?_eq_some_iff.1 hZ8).1
            have hQ9 : B9 < (U13.alloc (.cells #[.int .u64 0, .int .u64 0, .int .u64 0, .int .u64 0, .int .u64 0, .int .u64 0, .int .u64 0, .int .u64 0] 36)).heap.size := (Array.getElem?_eq_some_iff.1 hZ9).1
            clear hLT9
            have hLT9 := hQ9
            clear hQ9
            generalize (U13.alloc (.cells #[.int .u64 0, .int .u64 0, .int .u64 0, .int .u64 0, .int .u64 0, .int .u64 0, .int .u64 0, .int .u64 0] 36)) = U14 at hZ8 hZ9 hSA hLT8 hLT9 ⊢
            refine hK.out _ _ hSA (fun hS => ?_)
            clear hK K hSA hBe
            obtain ⟨a0, a1, a2, a3, a4, a5, a6, a7⟩ := cells8 hZ8
            have fa : ∀ o, U14.frozen? ⟨B8, o, none⟩ = false := fun o => blk_free hZ8
            refine wpAnyH_ready (rs := [10]) (by kernel_rfl) (by simp) (AllReadyH.cons rfl (fun K hK => ?_) AllReadyH.nil)
            go_simp
            have g8 := stored8 (z0 := .int .u64 q0) (z1 := .int .u64 q1) (z2 := .int .u64 q2) (z3 := .int .u64 q3) (z4 := .int .u64 q4) (z5 := .int .u64 q5) (z6 := .int .u64 q6) (z7 := .int .u64 q7) hZ8
            have hSB := below_stored8 (b := B8) (z0 := .int .u64 q0) (z1 := .int .u64 q1) (z2 := .int .u64 q2) (z3 := .int .u64 q3) (z4 := .int .u64 q4) (z5 := .int .u64 q5) (z6 := .int .u64 q6) (z7 := .int .u64 q7) hS hL8
            have o9 := (other8 (b := B8) (c := B9) (z0 := .int .u64 q0) (z1 := .int .u64 q1) (z2 := .int .u64 q2) (z3 := .int .u64 q3) (z4 := .int .u64 q4) (z5 := .int .u64 q5) (z6 := .int .u64 q6) (z7 := .int .u64 q7) (by first | exact hN98 | exact (hN98).symm | exact hN89 | exact (hN89).symm)).trans hZ9
            clear hZ9
            have hZ9 := o9
            clear o9
            generalize ((((((((U14.setCell ⟨B8, 0, none⟩ (.int .u64 q0)).setCell ⟨B8, 1, none⟩ (.int .u64 q1)).setCell ⟨B8, 2, none⟩ (.int .u64 q2)).setCell ⟨B8, 3, none⟩ (.int .u64 q3)).setCell ⟨B8, 4, none⟩ (.int .u64 q4)).setCell ⟨B8, 5, none⟩ (.int .u64 q5)).setCell ⟨B8, 6, none⟩ (.int .u64 q6)).setCell ⟨B8, 7, none⟩ (.int .u64 q7)) = U14x at g8 hSB hZ9 ⊢
            refine hK.out _ _ hSB (fun hS => ?_)
            clear hK K hSB a0 a1 a2 a3 a4 a5 a6 a7 fa hZ8
            obtain ⟨a0, a1, a2, a3⟩ := cells4 hZ9
            have fa : ∀ o, U14x.frozen? ⟨B9, o, none⟩ = false := fun o => blk_free hZ9
            refine wpAnyH_ready (rs := [11]) (by kernel_rfl) (by simp) (AllReadyH.cons rfl (fun K hK => ?_) AllReadyH.nil)
            go_simp
            have g9 := stored4 (z0 := .int .u64 z0) (z1 := .int .u64 z1) (z2 := .int .u64 z2) (z3 := .int .u64 z3) hZ9
            have hSB := below_stored4 (b := B9) (z0 := .int .u64 z0) (z1 := .int .u64 z1) (z2 := .int .u64 z2) (z3 := .int .u64 z3) hS hL9
            have o8 := (other4 (b := B9) (c := B8) (z0 := .int .u64 z0) (z1 := .int .u64 z1) (z2 := .int .u64 z2) (z3 := .int .u64 z3) (by first | exact hN89 | exact (hN89).symm | exact hN98 | exact (hN98).symm)).trans g8
            clear g8
            have g8 := o8
            clear o8
            generalize ((((U14x.setCell ⟨B9, 0, none⟩ (.int .u64 z0)).setCell ⟨B9, 1, none⟩ (.int .u64 z1)).setCell ⟨B9, 2, none⟩ (.int .u64 z2)).setCell ⟨B9, 3, none⟩ (.int .u64 z3)) = U14xx at g9 hSB g8 ⊢
            refine hK.out _ _ hSB (fun hS => wpAnyH_done (by kernel_rfl) ?_ _)
            clear hK K
            go_wp2_with fail
            go_meet
            exact ⟨B9, rfl, g9, hL9, hSB⟩
        · go_simp
          obtain ⟨B8, hBe⟩ : ∃ B8, B8 = U12.heap.size := ⟨_, rfl⟩
          have hZ8 : (U12.alloc (.cells #[.int .u64 0, .int .u64 0, .int .u64 0, .int .u64 0, .int .u64 0, .int .u64 0, .int .u64 0, .int .u64 0] 36)).heap[B8]? = some (.cells #[.int .u64 0, .int .u64 0, .int .u64 0, .int .u64 0, .int .u64 0, .int .u64 0, .int .u64 0, .int .u64 0] 36 (0, 0)) := by rw [hBe]; exact heap_new _ _
          have hL8 : W0.heap.size ≤ B8 := by rw [hBe]; exact hS.size
          have hSA : Below W0.heap.size W0 (U12.alloc (.cells #[.int .u64 0, .int .u64 0, .int .u64 0, .int .u64 0, .int .u64 0, .int .u64 0, .int .u64 0, .int .u64 0] 36)) := hS.alloc hS.size _
          have hY9 : (U12.alloc (.cells #[.int .u64 0, .int .u64 0, .int .u64 0, .int .u64 0, .int .u64 0, .int .u64 0, .int .u64 0, .int .u64 0] 36)).heap[B9]? = _ := (heap_old _ _ (Array.getElem?_eq_some_iff.1 hZ9).1).trans hZ9
          clear hZ9
          have hZ9 := hY9
          clear hY9
          have hN89 : B9 ≠ B8 := by rw [hBe]; exact Nat.ne_of_lt (hLT9)
          rw [← hBe]
          have hLT8 : B8 < (U12.alloc (.cells #[.int .u64 0, .int .u64 0, .int .u64 0, .int .u64 0, .int .u64 0, .int .u64 0, .int .u64 0, .int .u64 0] 36)).heap.size := (Array.getElem?_eq_some_iff.1 hZ8).1
          have hQ9 : B9 < (U12.alloc (.cells #[.int .u64 0, .int .u64 0, .int .u64 0, .int .u64 0, .int .u64 0, .int .u64 0, .int .u64 0, .int .u64 0] 36)).heap.size := (Array.getElem?_eq_some_iff.1 hZ9).1
          clear hLT9
          have hLT9 := hQ9
          clear hQ9
          generalize (U12.alloc (.cells #[.int .u64 0, .int .u64 0, .int .u64 0, .int .u64 0, .int .u64 0, .int .u64 0, .int .u64 0, .int .u64 0] 36)) = U15 at hZ8 hZ9 hSA hLT8 hLT9 ⊢
          refine hK.out _ _ hSA (fun hS => ?_)
          clear hK K hSA hBe
          refine wpAnyH_ready (rs := [4]) (by kernel_rfl) (by simp) ?_
          refine AllReadyH.cons rfl (fun K hK => ?_) AllReadyH.nil
          · go_simp
            refine (HD.out _).mono ?_
            rintro e U16 ⟨rfl, hbc⟩
            refine hK.out _ _ (hS.trans (hbc.mono hS.size)) (fun hS => ?_)
            replace hZ9 := (hbc.block B9 (Array.getElem?_eq_some_iff.1 hZ9).1).trans hZ9
            replace hLT9 := (Array.getElem?_eq_some_iff.1 hZ9).1
            replace hZ8 := (hbc.block B8 (Array.getElem?_eq_some_iff.1 hZ8).1).trans hZ8
            replace hLT8 := (Array.getElem?_eq_some_iff.1 hZ8).1
            clear hK K hbc
            refine wpAnyH_take (i := 5) (v := ?_) rfl (by kernel_rfl) (by kernel_rfl) (by kernel_rfl) (fun _ _ _ h => h) (Or.inl ⟨by rfl, ?_⟩) hS ?_
            rotate_left
            · intro V hV
              go_simp
              (try with_reducible rfl)
            simp only [Act.put]
            refine wpAnyH_take (i := 6) (v := ?_) rfl (by kernel_rfl) (by kernel_rfl) (by kernel_rfl) (fun _ _ _ h => h) (Or.inl ⟨by rfl, ?_⟩) hS ?_
            rotate_left
            · intro V hV
              go_simp
              (try with_reducible rfl)
            simp only [Act.put]
            refine wpAnyH_take (i := 7) (v := ?_) rfl (by kernel_rfl) (by kernel_rfl) (by kernel_rfl) (fun _ _ _ h => h) (Or.inl ⟨by rfl, ?_⟩) hS ?_
            rotate_left
            · intro V hV
              go_simp
              (try with_reducible rfl)
            simp only [Act.put]
            obtain ⟨a0, a1, a2, a3, a4, a5, a6, a7⟩ := cells8 hZ8
            have fa : ∀ o, U16.frozen? ⟨B8, o, none⟩ = false := fun o => blk_free hZ8
            refine wpAnyH_ready (rs := [10]) (by kernel_rfl) (by simp) (AllReadyH.cons rfl (fun K hK => ?_) AllReadyH.nil)
            go_simp
            have g8 := stored8 (z0 := .int .u64 q0) (z1 := .int .u64 q1) (z2 := .int .u64 q2) (z3 := .int .u64 q3) (z4 := .int .u64 q4) (z5 := .int .u64 q5) (z6 := .int .u64 q6) (z7 := .int .u64 q7) hZ8
            have hSB := below_stored8 (b := B8) (z0 := .int .u64 q0) (z1 := .int .u64 q1) (z2 := .int .u64 q2) (z3 := .int .u64 q3) (z4 := .int .u64 q4) (z5 := .int .u64 q5) (z6 := .int .u64 q6) (z7 := .int .u64 q7) hS hL8
            have o9 := (other8 (b := B8) (c := B9) (z0 := .int .u64 q0) (z1 := .int .u64 q1) (z2 := .int .u64 q2) (z3 := .int .u64 q3) (z4 := .int .u64 q4) (z5 := .int .u64 q5) (z6 := .int .u64 q6) (z7 := .int .u64 q7) (by first | exact hN98 | exact (hN98).symm | exact hN89 | exact (hN89).symm)).trans hZ9
            clear hZ9
            have hZ9 := o9
            clear o9
            generalize ((((((((U16.setCell ⟨B8, 0, none⟩ (.int .u64 q0)).setCell ⟨B8, 1, none⟩ (.int .u64 q1)).setCell ⟨B8, 2, none⟩ (.int .u64 q2)).setCell ⟨B8, 3, none⟩ (.int .u64 q3)).setCell ⟨B8, 4, none⟩ (.int .u64 q4)).setCell ⟨B8, 5, none⟩ (.int .u64 q5)).setCell ⟨B8, 6, none⟩ (.int .u64 q6)).setCell ⟨B8, 7, none⟩ (.int .u64 q7)) = U16x at g8 hSB hZ9 ⊢
            refine hK.out _ _ hSB (fun hS => ?_)
            clear hK K hSB a0 a1 a2 a3 a4 a5 a6 a7 fa hZ8
            obtain ⟨a0, a1, a2, a3⟩ := cells4 hZ9
            have fa : ∀ o, U16x.frozen? ⟨B9, o, none⟩ = false := fun o => blk_free hZ9
            refine wpAnyH_ready (rs := [11]) (by kernel_rfl) (by simp) (AllReadyH.cons rfl (fun K hK => ?_) AllReadyH.nil)
            go_simp
            have g9 := stored4 (z0 := .int .u64 z0) (z1 := .int .u64 z1) (z2 := .int .u64 z2) (z3 := .int .u64 z3) hZ9
            have hSB := below_stored4 (b := B9) (z0 := .int .u64 z0) (z1 := .int .u64 z1) (z2 := .int .u64 z2) (z3 := .int .u64 z3) hS hL9
            have o8 := (other4 (b := B9) (c := B8) (z0 := .int .u64 z0) (z1 := .int .u64 z1) (z2 := .int .u64 z2) (z3 := .int .u64 z3) (by first | exact hN89 | exact (hN89).symm | exact hN98 | exact (hN98).symm)).trans g8
            clear g8
            have g8 := o8
            clear o8
            generalize ((((U16x.setCell ⟨B9, 0, none⟩ (.int .u64 z0)).setCell ⟨B9, 1, none⟩ (.int .u64 z1)).setCell ⟨B9, 2, none⟩ (.int .u64 z2)).setCell ⟨B9, 3, none⟩ (.int .u64 z3)) = U16xx at g9 hSB g8 ⊢
            refine hK.out _ _ hSB (fun hS => wpAnyH_done (by kernel_rfl) ?_ _)
            clear hK K
            go_wp2_with fail
            go_meet
            exact ⟨B9, rfl, g9, hL9, hSB⟩
    · go_simp
      obtain ⟨B8, hBe⟩ : ∃ B8, B8 = W0.heap.size := ⟨_, rfl⟩
      have hZ8 : (W0.alloc (.cells #[.int .u64 0, .int .u64 0, .int .u64 0, .int .u64 0, .int .u64 0, .int .u64 0, .int .u64 0, .int .u64 0] 36)).drew.heap[B8]? = some (.cells #[.int .u64 0, .int .u64 0, .int .u64 0, .int .u64 0, .int .u64 0, .int .u64 0, .int .u64 0, .int .u64 0] 36 (0, 0)) := by rw [hBe]; exact heap_new _ _
      have hL8 : W0.heap.size ≤ B8 := by rw [hBe]; exact Nat.le_refl _
      have hSA : Below W0.heap.size W0 (W0.alloc (.cells #[.int .u64 0, .int .u64 0, .int .u64 0, .int .u64 0, .int .u64 0, .int .u64 0, .int .u64 0, .int .u64 0] 36)).drew := ((Below.refl _ W0).alloc (Nat.le_refl _) _).drew
      rw [← hBe]
      have hLT8 : B8 < (W0.alloc (.cells #[.int .u64 0, .int .u64 0, .int .u64 0, .int .u64 0, .int .u64 0, .int .u64 0, .int .u64 0, .int .u64 0] 36)).drew.heap.size := (Array.getElem?_eq_some_iff.1 hZ8).1
      generalize (W0.alloc (.cells #[.int .u64 0, .int .u64 0, .int .u64 0, .int .u64 0, .int .u64 0, .int .u64 0, .int .u64 0, .int .u64 0] 36)).drew = U17 at hZ8  hSA hLT8  ⊢
      refine hK.out _ _ hSA (fun hS => ?_)
      clear hK K hSA hBe
      refine wpAnyH_ready (rs := [2, 9]) (by kernel_rfl) (by simp) ?_
      refine AllReadyH.cons rfl (fun K hK => ?_) (AllReadyH.cons rfl (fun K hK => ?_) AllReadyH.nil)
      · go_simp
        refine (HW.out _).mono ?_
        rintro e U18 ⟨rfl, hbc⟩
        refine hK.out _ _ (hS.trans (hbc.mono hS.size)) (fun hS => ?_)
        replace hZ8 := (hbc.block B8 (Array.getElem?_eq_some_iff.1 hZ8).1).trans hZ8
        replace hLT8 := (Array.getElem?_eq_some_iff.1 hZ8).1
        clear hK K hbc
        refine wpAnyH_ready (rs := [4, 9]) (by kernel_rfl) (by simp) ?_
        refine AllReadyH.cons rfl (fun K hK => ?_) (AllReadyH.cons rfl (fun K hK => ?_) AllReadyH.nil)
        · go_simp
          refine (HD.out _).mono ?_
          rintro e U19 ⟨rfl, hbc⟩
          refine hK.out _ _ (hS.trans (hbc.mono hS.size)) (fun hS => ?_)
          replace hZ8 := (hbc.block B8 (Array.getElem?_eq_some_iff.1 hZ8).1).trans hZ8
          replace hLT8 := (Array.getElem?_eq_some_iff.1 hZ8).1
          clear hK K hbc
          refine wpAnyH_take (i := 5) (v := ?_) rfl (by kernel_rfl) (by kernel_rfl) (by kernel_rfl) (fun _ _ _ h => h) (Or.inl ⟨by rfl, ?_⟩) hS ?_
          rotate_left
          · intro V hV
            go_simp
            (try with_reducible rfl)
          simp only [Act.put]
          refine wpAnyH_take (i := 6) (v := ?_) rfl (by kernel_rfl) (by kernel_rfl) (by kernel_rfl) (fun _ _ _ h => h) (Or.inl ⟨by rfl, ?_⟩) hS ?_
          rotate_left
          · intro V hV
            go_simp
            (try with_reducible rfl)
          simp only [Act.put]
          refine wpAnyH_take (i := 7) (v := ?_) rfl (by kernel_rfl) (by kernel_rfl) (by kernel_rfl) (fun _ _ _ h => h) (Or.inl ⟨by rfl, ?_⟩) hS ?_
          rotate_left
          · intro V hV
            go_simp
            (try with_reducible rfl)
          simp only [Act.put]
          refine wpAnyH_ready (rs := [9]) (by kernel_rfl) (by simp) ?_
          refine AllReadyH.cons rfl (fun K hK => ?_) AllReadyH.nil
          · go_simp
            obtain ⟨B9, hBe⟩ : ∃ B9, B9 = U19.heap.size := ⟨_, rfl⟩
            have hZ9 : (U19.alloc (.cells #[.int .u64 0, .int .u64 0, .int .u64 0, .int .u64 0] 24)).heap[B9]? = some (.cells #[.int .u64 0, .int .u64 0, .int .u64 0, .int .u64 0] 24 (0, 0)) := by rw [hBe]; exact heap_new _ _
            have hL9 : W0.heap.size ≤ B9 := by rw [hBe]; exact hS.size
            have hSA : Below W0.heap.size W0 (U19.alloc (.cells #[.int .u64 0, .int .u64 0, .int .u64 0, .int .u64 0] 24)) := hS.alloc hS.size _
            have hY8 : (U19.alloc (.cells #[.int .u64 0, .int .u64 0, .int .u64 0, .int .u64 0] 24)).heap[B8]? = _ := (heap_old _ _ (Array.getElem?_eq_some_iff.1 hZ8).1).trans hZ8
            clear hZ8
            have hZ8 := hY8
            clear hY8
            have hN98 : B8 ≠ B9 := by rw [hBe]; exact Nat.ne_of_lt (hLT8)
            rw [← hBe]
            have hLT9 : B9 < (U19.alloc (.cells #[.int .u64 0, .int .u64 0, .int .u64 0, .int .u64 0] 24)).heap.size := (Array.getElem?_eq_some_iff.1 hZ9).1
            have hQ8 : B8 < (U19.alloc (.cells #[.int .u64 0, .int .u64 0, .int .u64 0, .int .u64 0] 24)).heap.size := (Array.getElem?_eq_some_iff.1 hZ8).1
            clear hLT8
            have hLT8 := hQ8
            clear hQ8
            generalize (U19.alloc (.cells #[.int .u64 0, .int .u64 0, .int .u64 0, .int .u64 0] 24)) = U20 at hZ9 hZ8 hSA hLT9 hLT8 ⊢
            refine hK.out _ _ hSA (fun hS => ?_)
            clear hK K hSA hBe
            obtain ⟨a0, a1, a2, a3, a4, a5, a6, a7⟩ := cells8 hZ8
            have fa : ∀ o, U20.frozen? ⟨B8, o, none⟩ = false := fun o => blk_free hZ8
            refine wpAnyH_ready (rs := [10]) (by kernel_rfl) (by simp) (AllReadyH.cons rfl (fun K hK => ?_) AllReadyH.nil)
            go_simp
            have g8 := stored8 (z0 := .int .u64 q0) (z1 := .int .u64 q1) (z2 := .int .u64 q2) (z3 := .int .u64 q3) (z4 := .int .u64 q4) (z5 := .int .u64 q5) (z6 := .int .u64 q6) (z7 := .int .u64 q7) hZ8
            have hSB := below_stored8 (b := B8) (z0 := .int .u64 q0) (z1 := .int .u64 q1) (z2 := .int .u64 q2) (z3 := .int .u64 q3) (z4 := .int .u64 q4) (z5 := .int .u64 q5) (z6 := .int .u64 q6) (z7 := .int .u64 q7) hS hL8
            have o9 := (other8 (b := B8) (c := B9) (z0 := .int .u64 q0) (z1 := .int .u64 q1) (z2 := .int .u64 q2) (z3 := .int .u64 q3) (z4 := .int .u64 q4) (z5 := .int .u64 q5) (z6 := .int .u64 q6) (z7 := .int .u64 q7) (by first | exact hN98 | exact (hN98).symm | exact hN89 | exact (hN89).symm)).trans hZ9
            clear hZ9
            have hZ9 := o9
            clear o9
            generalize ((((((((U20.setCell ⟨B8, 0, none⟩ (.int .u64 q0)).setCell ⟨B8, 1, none⟩ (.int .u64 q1)).setCell ⟨B8, 2, none⟩ (.int .u64 q2)).setCell ⟨B8, 3, none⟩ (.int .u64 q3)).setCell ⟨B8, 4, none⟩ (.int .u64 q4)).setCell ⟨B8, 5, none⟩ (.int .u64 q5)).setCell ⟨B8, 6, none⟩ (.int .u64 q6)).setCell ⟨B8, 7, none⟩ (.int .u64 q7)) = U20x at g8 hSB hZ9 ⊢
            refine hK.out _ _ hSB (fun hS => ?_)
            clear hK K hSB a0 a1 a2 a3 a4 a5 a6 a7 fa hZ8
            obtain ⟨a0, a1, a2, a3⟩ := cells4 hZ9
            have fa : ∀ o, U20x.frozen? ⟨B9, o, none⟩ = false := fun o => blk_free hZ9
            refine wpAnyH_ready (rs := [11]) (by kernel_rfl) (by simp) (AllReadyH.cons rfl (fun K hK => ?_) AllReadyH.nil)
            go_simp
            have g9 := stored4 (z0 := .int .u64 z0) (z1 := .int .u64 z1) (z2 := .int .u64 z2) (z3 := .int .u64 z3) hZ9
            have hSB := below_stored4 (b := B9) (z0 := .int .u64 z0) (z1 := .int .u64 z1) (z2 := .int .u64 z2) (z3 := .int .u64 z3) hS hL9
            have o8 := (other4 (b := B9) (c := B8) (z0 := .int .u64 z0) (z1 := .int .u64 z1) (z2 := .int .u64 z2) (z3 := .int .u64 z3) (by first | exact hN89 | exact (hN89).symm | exact hN98 | exact (hN98).symm)).trans g8
            clear g8
            have g8 := o8
            clear o8
            generalize ((((U20x.setCell ⟨B9, 0, none⟩ (.int .u64 z0)).setCell ⟨B9, 1, none⟩ (.int .u64 z1)).setCell ⟨B9, 2, none⟩ (.int .u64 z2)).setCell ⟨B9, 3, none⟩ (.int .u64 z3)) = U20xx at g9 hSB g8 ⊢
            refine hK.out _ _ hSB (fun hS => wpAnyH_done (by kernel_rfl) ?_ _)
            clear hK K
            go_wp2_with fail
            go_meet
            exact ⟨B9, rfl, g9, hL9, hSB⟩
        · go_simp
          obtain ⟨B9, hBe⟩ : ∃ B9, B9 = U18.heap.size := ⟨_, rfl⟩
          have hZ9 : (U18.alloc (.cells #[.int .u64 0, .int .u64 0, .int .u64 0, .int .u64 0] 24)).heap[B9]? = some (.cells #[.int .u64 0, .int .u64 0, .int .u64 0, .int .u64 0] 24 (0, 0)) := by rw [hBe]; exact heap_new _ _
          have hL9 : W0.heap.size ≤ B9 := by rw [hBe]; exact hS.size
          have hSA : Below W0.heap.size W0 (U18.alloc (.cells #[.int .u64 0, .int .u64 0, .int .u64 0, .int .u64 0] 24)) := hS.alloc hS.size _
          have hY8 : (U18.alloc (.cells #[.int .u64 0, .int .u64 0, .int .u64 0, .int .u64 0] 24)).heap[B8]? = _ := (heap_old _ _ (Array.getElem?_eq_some_iff.1 hZ8).1).trans hZ8
          clear hZ8
          have hZ8 := hY8
          clear hY8
          have hN98 : B8 ≠ B9 := by rw [hBe]; exact Nat.ne_of_lt (hLT8)
          rw [← hBe]
          have hLT9 : B9 < (U18.alloc (.cells #[.int .u64 0, .int .u64 0, .int .u64 0, .int .u64 0] 24)).heap.size := (Array.getElem?_eq_some_iff.1 hZ9).1
          have hQ8 : B8 < (U18.alloc (.cells #[.int .u64 0, .int .u64 0, .int .u64 0, .int .u64 0] 24)).heap.size := (Array.getElem?_eq_some_iff.1 hZ8).1
          clear hLT8
          have hLT8 := hQ8
          clear hQ8
          generalize (U18.alloc (.cells #[.int .u64 0, .int .u64 0, .int .u64 0, .int .u64 0] 24)) = U21 at hZ9 hZ8 hSA hLT9 hLT8 ⊢
          refine hK.out _ _ hSA (fun hS => ?_)
          clear hK K hSA hBe
          refine wpAnyH_ready (rs := [4]) (by kernel_rfl) (by simp) ?_
          refine AllReadyH.cons rfl (fun K hK => ?_) AllReadyH.nil
          · go_simp
            refine (HD.out _).mono ?_
            rintro e U22 ⟨rfl, hbc⟩
            refine hK.out _ _ (hS.trans (hbc.mono hS.size)) (fun hS => ?_)
            replace hZ8 := (hbc.block B8 (Array.getElem?_eq_some_iff.1 hZ8).1).trans hZ8
            replace hLT8 := (Array.getElem?_eq_some_iff.1 hZ8).1
            replace hZ9 := (hbc.block B9 (Array.getElem?_eq_some_iff.1 hZ9).1).trans hZ9
            replace hLT9 := (Array.getElem?_eq_some_iff.1 hZ9).1
            clear hK K hbc
            refine wpAnyH_take (i := 5) (v := ?_) rfl (by kernel_rfl) (by kernel_rfl) (by kernel_rfl) (fun _ _ _ h => h) (Or.inl ⟨by rfl, ?_⟩) hS ?_
            rotate_left
            · intro V hV
              go_simp
              (try with_reducible rfl)
            simp only [Act.put]
            refine wpAnyH_take (i := 6) (v := ?_) rfl (by kernel_rfl) (by kernel_rfl) (by kernel_rfl) (fun _ _ _ h => h) (Or.inl ⟨by rfl, ?_⟩) hS ?_
            rotate_left
            · intro V hV
              go_simp
              (try with_reducible rfl)
            simp only [Act.put]
            refine wpAnyH_take (i := 7) (v := ?_) rfl (by kernel_rfl) (by kernel_rfl) (by kernel_rfl) (fun _ _ _ h => h) (Or.inl ⟨by rfl, ?_⟩) hS ?_
            rotate_left
            · intro V hV
              go_simp
              (try with_reducible rfl)
            simp only [Act.put]
            obtain ⟨a0, a1, a2, a3, a4, a5, a6, a7⟩ := cells8 hZ8
            have fa : ∀ o, U22.frozen? ⟨B8, o, none⟩ = false := fun o => blk_free hZ8
            refine wpAnyH_ready (rs := [10]) (by kernel_rfl) (by simp) (AllReadyH.cons rfl (fun K hK => ?_) AllReadyH.nil)
            go_simp
            have g8 := stored8 (z0 := .int .u64 q0) (z1 := .int .u64 q1) (z2 := .int .u64 q2) (z3 := .int .u64 q3) (z4 := .int .u64 q4) (z5 := .int .u64 q5) (z6 := .int .u64 q6) (z7 := .int .u64 q7) hZ8
            have hSB := below_stored8 (b := B8) (z0 := .int .u64 q0) (z1 := .int .u64 q1) (z2 := .int .u64 q2) (z3 := .int .u64 q3) (z4 := .int .u64 q4) (z5 := .int .u64 q5) (z6 := .int .u64 q6) (z7 := .int .u64 q7) hS hL8
            have o9 := (other8 (b := B8) (c := B9) (z0 := .int .u64 q0) (z1 := .int .u64 q1) (z2 := .int .u64 q2) (z3 := .int .u64 q3) (z4 := .int .u64 q4) (z5 := .int .u64 q5) (z6 := .int .u64 q6) (z7 := .int .u64 q7) (by first | exact hN98 | exact (hN98).symm | exact hN89 | exact (hN89).symm)).trans hZ9
            clear hZ9
            have hZ9 := o9
            clear o9
            generalize ((((((((U22.setCell ⟨B8, 0, none⟩ (.int .u64 q0)).setCell ⟨B8, 1, none⟩ (.int .u64 q1)).setCell ⟨B8, 2, none⟩ (.int .u64 q2)).setCell ⟨B8, 3, none⟩ (.int .u64 q3)).setCell ⟨B8, 4, none⟩ (.int .u64 q4)).setCell ⟨B8, 5, none⟩ (.int .u64 q5)).setCell ⟨B8, 6, none⟩ (.int .u64 q6)).setCell ⟨B8, 7, none⟩ (.int .u64 q7)) = U22x at g8 hSB hZ9 ⊢
            refine hK.out _ _ hSB (fun hS => ?_)
            clear hK K hSB a0 a1 a2 a3 a4 a5 a6 a7 fa hZ8
            obtain ⟨a0, a1, a2, a3⟩ := cells4 hZ9
            have fa : ∀ o, U22x.frozen? ⟨B9, o, none⟩ = false := fun o => blk_free hZ9
            refine wpAnyH_ready (rs := [11]) (by kernel_rfl) (by simp) (AllReadyH.cons rfl (fun K hK => ?_) AllReadyH.nil)
            go_simp
            have g9 := stored4 (z0 := .int .u64 z0) (z1 := .int .u64 z1) (z2 := .int .u64 z2) (z3 := .int .u64 z3) hZ9
            have hSB := below_stored4 (b := B9) (z0 := .int .u64 z0) (z1 := .int .u64 z1) (z2 := .int .u64 z2) (z3 := .int .u64 z3) hS hL9
            have o8 := (other4 (b := B9) (c := B8) (z0 := .int .u64 z0) (z1 := .int .u64 z1) (z2 := .int .u64 z2) (z3 := .int .u64 z3) (by first | exact hN89 | exact (hN89).symm | exact hN98 | exact (hN98).symm)).trans g8
            clear g8
            have g8 := o8
            clear o8
            generalize ((((U22x.setCell ⟨B9, 0, none⟩ (.int .u64 z0)).setCell ⟨B9, 1, none⟩ (.int .u64 z1)).setCell ⟨B9, 2, none⟩ (.int .u64 z2)).setCell ⟨B9, 3, none⟩ (.int .u64 z3)) = U22xx at g9 hSB g8 ⊢
            refine hK.out _ _ hSB (fun hS => wpAnyH_done (by kernel_rfl) ?_ _)
            clear hK K
            go_wp2_with fail
            go_meet
            exact ⟨B9, rfl, g9, hL9, hSB⟩
      · go_simp
        obtain ⟨B9, hBe⟩ : ∃ B9, B9 = U17.heap.size := ⟨_, rfl⟩
        have hZ9 : (U17.alloc (.cells #[.int .u64 0, .int .u64 0, .int .u64 0, .int .u64 0] 24)).heap[B9]? = some (.cells #[.int .u64 0, .int .u64 0, .int .u64 0, .int .u64 0] 24 (0, 0)) := by rw [hBe]; exact heap_new _ _
        have hL9 : W0.heap.size ≤ B9 := by rw [hBe]; exact hS.size
        have hSA : Below W0.heap.size W0 (U17.alloc (.cells #[.int .u64 0, .int .u64 0, .int .u64 0, .int .u64 0] 24)) := hS.alloc hS.size _
        have hY8 : (U17.alloc (.cells #[.int .u64 0, .int .u64 0, .int .u64 0, .int .u64 0] 24)).heap[B8]? = _ := (heap_old _ _ (Array.getElem?_eq_some_iff.1 hZ8).1).trans hZ8
        clear hZ8
        have hZ8 := hY8
        clear hY8
        have hN98 : B8 ≠ B9 := by rw [hBe]; exact Nat.ne_of_lt (hLT8)
        rw [← hBe]
        have hLT9 : B9 < (U17.alloc (.cells #[.int .u64 0, .int .u64 0, .int .u64 0, .int .u64 0] 24)).heap.size := (Array.getElem?_eq_some_iff.1 hZ9).1
        have hQ8 : B8 < (U17.alloc (.cells #[.int .u64 0, .int .u64 0, .int .u64 0, .int .u64 0] 24)).heap.size := (Array.getElem?_eq_some_iff.1 hZ8).1
        clear hLT8
        have hLT8 := hQ8
        clear hQ8
        generalize (U17.alloc (.cells #[.int .u64 0, .int .u64 0, .int .u64 0, .int .u64 0] 24)) = U23 at hZ9 hZ8 hSA hLT9 hLT8 ⊢
        refine hK.out _ _ hSA (fun hS => ?_)
        clear hK K hSA hBe
        refine wpAnyH_ready (rs := [2]) (by kernel_rfl) (by simp) ?_
        refine AllReadyH.cons rfl (fun K hK => ?_) AllReadyH.nil
        · go_simp
          refine (HW.out _).mono ?_
          rintro e U24 ⟨rfl, hbc⟩
          refine hK.out _ _ (hS.trans (hbc.mono hS.size)) (fun hS => ?_)
          replace hZ8 := (hbc.block B8 (Array.getElem?_eq_some_iff.1 hZ8).1).trans hZ8
          replace hLT8 := (Array.getElem?_eq_some_iff.1 hZ8).1
          replace hZ9 := (hbc.block B9 (Array.getElem?_eq_some_iff.1 hZ9).1).trans hZ9
          replace hLT9 := (Array.getElem?_eq_some_iff.1 hZ9).1
          clear hK K hbc
          refine wpAnyH_ready (rs := [4]) (by kernel_rfl) (by simp) ?_
          refine AllReadyH.cons rfl (fun K hK => ?_) AllReadyH.nil
          · go_simp
            refine (HD.out _).mono ?_
            rintro e U25 ⟨rfl, hbc⟩
            refine hK.out _ _ (hS.trans (hbc.mono hS.size)) (fun hS => ?_)
            replace hZ8 := (hbc.block B8 (Array.getElem?_eq_some_iff.1 hZ8).1).trans hZ8
            replace hLT8 := (Array.getElem?_eq_some_iff.1 hZ8).1
            replace hZ9 := (hbc.block B9 (Array.getElem?_eq_some_iff.1 hZ9).1).trans hZ9
            replace hLT9 := (Array.getElem?_eq_some_iff.1 hZ9).1
            clear hK K hbc
            refine wpAnyH_take (i := 5) (v := ?_) rfl (by kernel_rfl) (by kernel_rfl) (by kernel_rfl) (fun _ _ _ h => h) (Or.inl ⟨by rfl, ?_⟩) hS ?_
            rotate_left
            · intro V hV
              go_simp
              (try with_reducible rfl)
            simp only [Act.put]
            refine wpAnyH_take (i := 6) (v := ?_) rfl (by kernel_rfl) (by kernel_rfl) (by kernel_rfl) (fun _ _ _ h => h) (Or.inl ⟨by rfl, ?_⟩) hS ?_
            rotate_left
            · intro V hV
              go_simp
              (try with_reducible rfl)
            simp only [Act.put]
            refine wpAnyH_take (i := 7) (v := ?_) rfl (by kernel_rfl) (by kernel_rfl) (by kernel_rfl) (fun _ _ _ h => h) (Or.inl ⟨by rfl, ?_⟩) hS ?_
            rotate_left
            · intro V hV
              go_simp
              (try with_reducible rfl)
            simp only [Act.put]
            obtain ⟨a0, a1, a2, a3, a4, a5, a6, a7⟩ := cells8 hZ8
            have fa : ∀ o, U25.frozen? ⟨B8, o, none⟩ = false := fun o => blk_free hZ8
            refine wpAnyH_ready (rs := [10]) (by kernel_rfl) (by simp) (AllReadyH.cons rfl (fun K hK => ?_) AllReadyH.nil)
            go_simp
            have g8 := stored8 (z0 := .int .u64 q0) (z1 := .int .u64 q1) (z2 := .int .u64 q2) (z3 := .int .u64 q3) (z4 := .int .u64 q4) (z5 := .int .u64 q5) (z6 := .int .u64 q6) (z7 := .int .u64 q7) hZ8
            have hSB := below_stored8 (b := B8) (z0 := .int .u64 q0) (z1 := .int .u64 q1) (z2 := .int .u64 q2) (z3 := .int .u64 q3) (z4 := .int .u64 q4) (z5 := .int .u64 q5) (z6 := .int .u64 q6) (z7 := .int .u64 q7) hS hL8
            have o9 := (other8 (b := B8) (c := B9) (z0 := .int .u64 q0) (z1 := .int .u64 q1) (z2 := .int .u64 q2) (z3 := .int .u64 q3) (z4 := .int .u64 q4) (z5 := .int .u64 q5) (z6 := .int .u64 q6) (z7 := .int .u64 q7) (by first | exact hN98 | exact (hN98).symm | exact hN89 | exact (hN89).symm)).trans hZ9
            clear hZ9
            have hZ9 := o9
            clear o9
            generalize ((((((((U25.setCell ⟨B8, 0, none⟩ (.int .u64 q0)).setCell ⟨B8, 1, none⟩ (.int .u64 q1)).setCell ⟨B8, 2, none⟩ (.int .u64 q2)).setCell ⟨B8, 3, none⟩ (.int .u64 q3)).setCell ⟨B8, 4, none⟩ (.int .u64 q4)).setCell ⟨B8, 5, none⟩ (.int .u64 q5)).setCell ⟨B8, 6, none⟩ (.int .u64 q6)).setCell ⟨B8, 7, none⟩ (.int .u64 q7)) = U25x at g8 hSB hZ9 ⊢
            refine hK.out _ _ hSB (fun hS => ?_)
            clear hK K hSB a0 a1 a2 a3 a4 a5 a6 a7 fa hZ8
            obtain ⟨a0, a1, a2, a3⟩ := cells4 hZ9
            have fa : ∀ o, U25x.frozen? ⟨B9, o, none⟩ = false := fun o => blk_free hZ9
            refine wpAnyH_ready (rs := [11]) (by kernel_rfl) (by simp) (AllReadyH.cons rfl (fun K hK => ?_) AllReadyH.nil)
            go_simp
            have g9 := stored4 (z0 := .int .u64 z0) (z1 := .int .u64 z1) (z2 := .int .u64 z2) (z3 := .int .u64 z3) hZ9
            have hSB := below_stored4 (b := B9) (z0 := .int .u64 z0) (z1 := .int .u64 z1) (z2 := .int .u64 z2) (z3 := .int .u64 z3) hS hL9
            have o8 := (other4 (b := B9) (c := B8) (z0 := .int .u64 z0) (z1 := .int .u64 z1) (z2 := .int .u64 z2) (z3 := .int .u64 z3) (by first | exact hN89 | exact (hN89).symm | exact hN98 | exact (hN98).symm)).trans g8
            clear g8
            have g8 := o8
            clear o8
            generalize ((((U25x.setCell ⟨B9, 0, none⟩ (.int .u64 z0)).setCell ⟨B9, 1, none⟩ (.int .u64 z1)).setCell ⟨B9, 2, none⟩ (.int .u64 z2)).setCell ⟨B9, 3, none⟩ (.int .u64 z3)) = U25xx at g9 hSB g8 ⊢
            refine hK.out _ _ hSB (fun hS => wpAnyH_done (by kernel_rfl) ?_ _)
            clear hK K
            go_wp2_with fail
            go_meet
            exact ⟨B9, rfl, g9, hL9, hSB⟩
    · go_simp
      obtain ⟨B9, hBe⟩ : ∃ B9, B9 = W0.heap.size := ⟨_, rfl⟩
      have hZ9 : (W0.alloc (.cells #[.int .u64 0, .int .u64 0, .int .u64 0, .int .u64 0] 24)).drew.heap[B9]? = some (.cells #[.int .u64 0, .int .u64 0, .int .u64 0, .int .u64 0] 24 (0, 0)) := by rw [hBe]; exact heap_new _ _
      have hL9 : W0.heap.size ≤ B9 := by rw [hBe]; exact Nat.le_refl _
      have hSA : Below W0.heap.size W0 (W0.alloc (.cells #[.int .u64 0, .int .u64 0, .int .u64 0, .int .u64 0] 24)).drew := ((Below.refl _ W0).alloc (Nat.le_refl _) _).drew
      rw [← hBe]
      have hLT9 : B9 < (W0.alloc (.cells #[.int .u64 0, .int .u64 0, .int .u64 0, .int .u64 0] 24)).drew.heap.size := (Array.getElem?_eq_some_iff.1 hZ9).1
      generalize (W0.alloc (.cells #[.int .u64 0, .int .u64 0, .int .u64 0, .int .u64 0] 24)).drew = U26 at hZ9  hSA hLT9  ⊢
      refine hK.out _ _ hSA (fun hS => ?_)
      clear hK K hSA hBe
      refine wpAnyH_ready (rs := [2, 8]) (by kernel_rfl) (by simp) ?_
      refine AllReadyH.cons rfl (fun K hK => ?_) (AllReadyH.cons rfl (fun K hK => ?_) AllReadyH.nil)
      · go_simp
        refine (HW.out _).mono ?_
        rintro e U27 ⟨rfl, hbc⟩
        refine hK.out _ _ (hS.trans (hbc.mono hS.size)) (fun hS => ?_)
        replace hZ9 := (hbc.block B9 (Array.getElem?_eq_some_iff.1 hZ9).1).trans hZ9
        replace hLT9 := (Array.getElem?_eq_some_iff.1 hZ9).1
        clear hK K hbc
        refine wpAnyH_ready (rs := [4, 8]) (by kernel_rfl) (by simp) ?_
        refine AllReadyH.cons rfl (fun K hK => ?_) (AllReadyH.cons rfl (fun K hK => ?_) AllReadyH.nil)
        · go_simp
          refine (HD.out _).mono ?_
          rintro e U28 ⟨rfl, hbc⟩
          refine hK.out _ _ (hS.trans (hbc.mono hS.size)) (fun hS => ?_)
          replace hZ9 := (hbc.block B9 (Array.getElem?_eq_some_iff.1 hZ9).1).trans hZ9
          replace hLT9 := (Array.getElem?_eq_some_iff.1 hZ9).1
          clear hK K hbc
          refine wpAnyH_take (i := 5) (v := ?_) rfl (by kernel_rfl) (by kernel_rfl) (by kernel_rfl) (fun _ _ _ h => h) (Or.inl ⟨by rfl, ?_⟩) hS ?_
          rotate_left
          · intro V hV
            go_simp
            (try with_reducible rfl)
          simp only [Act.put]
          refine wpAnyH_take (i := 6) (v := ?_) rfl (by kernel_rfl) (by kernel_rfl) (by kernel_rfl) (fun _ _ _ h => h) (Or.inl ⟨by rfl, ?_⟩) hS ?_
          rotate_left
          · intro V hV
            go_simp
            (try with_reducible rfl)
          simp only [Act.put]
          refine wpAnyH_take (i := 7) (v := ?_) rfl (by kernel_rfl) (by kernel_rfl) (by kernel_rfl) (fun _ _ _ h => h) (Or.inl ⟨by rfl, ?_⟩) hS ?_
          rotate_left
          · intro V hV
            go_simp
            (try with_reducible rfl)
          simp only [Act.put]
          refine wpAnyH_ready (rs := [8]) (by kernel_rfl) (by simp) ?_
          refine AllReadyH.cons rfl (fun K hK => ?_) AllReadyH.nil
          · go_simp
            obtain ⟨B8, hBe⟩ : ∃ B8, B8 = U28.heap.size := ⟨_, rfl⟩
            have hZ8 : (U28.alloc (.cells #[.int .u64 0, .int .u64 0, .int .u64 0, .int .u64 0, .int .u64 0, .int .u64 0, .int .u64 0, .int .u64 0] 36)).heap[B8]? = some (.cells #[.int .u64 0, .int .u64 0, .int .u64 0, .int .u64 0, .int .u64 0, .int .u64 0, .int .u64 0, .int .u64 0] 36 (0, 0)) := by rw [hBe]; exact heap_new _ _
            have hL8 : W0.heap.size ≤ B8 := by rw [hBe]; exact hS.size
            have hSA : Below W0.heap.size W0 (U28.alloc (.cells #[.int .u64 0, .int .u64 0, .int .u64 0, .int .u64 0, .int .u64 0, .int .u64 0, .int .u64 0, .int .u64 0] 36)) := hS.alloc hS.size _
            have hY9 : (U28.alloc (.cells #[.int .u64 0, .int .u64 0, .int .u64 0, .int .u64 0, .int .u64 0, .int .u64 0, .int .u64 0, .int .u64 0] 36)).heap[B9]? = _ := (heap_old _ _ (Array.getElem?_eq_some_iff.1 hZ9).1).trans hZ9
            clear hZ9
            have hZ9 := hY9
            clear hY9
            have hN89 : B9 ≠ B8 := by rw [hBe]; exact Nat.ne_of_lt (hLT9)
            rw [← hBe]
            have hLT8 : B8 < (U28.alloc (.cells #[.int .u64 0, .int .u64 0, .int .u64 0, .int .u64 0, .int .u64 0, .int .u64 0, .int .u64 0, .int .u64 0] 36)).heap.size := (Array.getElem?_eq_some_iff.1 hZ8).1
            have hQ9 : B9 < (U28.alloc (.cells #[.int .u64 0, .int .u64 0, .int .u64 0, .int .u64 0, .int .u64 0, .int .u64 0, .int .u64 0, .int .u64 0] 36)).heap.size := (Array.getElem?_eq_some_iff.1 hZ9).1
            clear hLT9
            have hLT9 := hQ9
            clear hQ9
            generalize (U28.alloc (.cells #[.int .u64 0, .int .u64 0, .int .u64 0, .int .u64 0, .int .u64 0, .int .u64 0, .int .u64 0, .int .u64 0] 36)) = U29 at hZ8 hZ9 hSA hLT8 hLT9 ⊢
            refine hK.out _ _ hSA (fun hS => ?_)
            clear hK K hSA hBe
            obtain ⟨a0, a1, a2, a3, a4, a5, a6, a7⟩ := cells8 hZ8
            have fa : ∀ o, U29.frozen? ⟨B8, o, none⟩ = false := fun o => blk_free hZ8
            refine wpAnyH_ready (rs := [10]) (by kernel_rfl) (by simp) (AllReadyH.cons rfl (fun K hK => ?_) AllReadyH.nil)
            go_simp
            have g8 := stored8 (z0 := .int .u64 q0) (z1 := .int .u64 q1) (z2 := .int .u64 q2) (z3 := .int .u64 q3) (z4 := .int .u64 q4) (z5 := .int .u64 q5) (z6 := .int .u64 q6) (z7 := .int .u64 q7) hZ8
            have hSB := below_stored8 (b := B8) (z0 := .int .u64 q0) (z1 := .int .u64 q1) (z2 := .int .u64 q2) (z3 := .int .u64 q3) (z4 := .int .u64 q4) (z5 := .int .u64 q5) (z6 := .int .u64 q6) (z7 := .int .u64 q7) hS hL8
            have o9 := (other8 (b := B8) (c := B9) (z0 := .int .u64 q0) (z1 := .int .u64 q1) (z2 := .int .u64 q2) (z3 := .int .u64 q3) (z4 := .int .u64 q4) (z5 := .int .u64 q5) (z6 := .int .u64 q6) (z7 := .int .u64 q7) (by first | exact hN98 | exact (hN98).symm | exact hN89 | exact (hN89).symm)).trans hZ9
            clear hZ9
            have hZ9 := o9
            clear o9
            generalize ((((((((U29.setCell ⟨B8, 0, none⟩ (.int .u64 q0)).setCell ⟨B8, 1, none⟩ (.int .u64 q1)).setCell ⟨B8, 2, none⟩ (.int .u64 q2)).setCell ⟨B8, 3, none⟩ (.int .u64 q3)).setCell ⟨B8, 4, none⟩ (.int .u64 q4)).setCell ⟨B8, 5, none⟩ (.int .u64 q5)).setCell ⟨B8, 6, none⟩ (.int .u64 q6)).setCell ⟨B8, 7, none⟩ (.int .u64 q7)) = U29x at g8 hSB hZ9 ⊢
            refine hK.out _ _ hSB (fun hS => ?_)
            clear hK K hSB a0 a1 a2 a3 a4 a5 a6 a7 fa hZ8
            obtain ⟨a0, a1, a2, a3⟩ := cells4 hZ9
            have fa : ∀ o, U29x.frozen? ⟨B9, o, none⟩ = false := fun o => blk_free hZ9
            refine wpAnyH_ready (rs := [11]) (by kernel_rfl) (by simp) (AllReadyH.cons rfl (fun K hK => ?_) AllReadyH.nil)
            go_simp
            have g9 := stored4 (z0 := .int .u64 z0) (z1 := .int .u64 z1) (z2 := .int .u64 z2) (z3 := .int .u64 z3) hZ9
            have hSB := below_stored4 (b := B9) (z0 := .int .u64 z0) (z1 := .int .u64 z1) (z2 := .int .u64 z2) (z3 := .int .u64 z3) hS hL9
            have o8 := (other4 (b := B9) (c := B8) (z0 := .int .u64 z0) (z1 := .int .u64 z1) (z2 := .int .u64 z2) (z3 := .int .u64 z3) (by first | exact hN89 | exact (hN89).symm | exact hN98 | exact (hN98).symm)).trans g8
            clear g8
            have g8 := o8
            clear o8
            generalize ((((U29x.setCell ⟨B9, 0, none⟩ (.int .u64 z0)).setCell ⟨B9, 1, none⟩ (.int .u64 z1)).setCell ⟨B9, 2, none⟩ (.int .u64 z2)).setCell ⟨B9, 3, none⟩ (.int .u64 z3)) = U29xx at g9 hSB g8 ⊢
            refine hK.out _ _ hSB (fun hS => wpAnyH_done (by kernel_rfl) ?_ _)
            clear hK K
            go_wp2_with fail
            go_meet
            exact ⟨B9, rfl, g9, hL9, hSB⟩
        · go_simp
          obtain ⟨B8, hBe⟩ : ∃ B8, B8 = U27.heap.size := ⟨_, rfl⟩
          have hZ8 : (U27.alloc (.cells #[.int .u64 0, .int .u64 0, .int .u64 0, .int .u64 0, .int .u64 0, .int .u64 0, .int .u64 0, .int .u64 0] 36)).heap[B8]? = some (.cells #[.int .u64 0, .int .u64 0, .int .u64 0, .int .u64 0, .int .u64 0, .int .u64 0, .int .u64 0, .int .u64 0] 36 (0, 0)) := by rw [hBe]; exact heap_new _ _
          have hL8 : W0.heap.size ≤ B8 := by rw [hBe]; exact hS.size
          have hSA : Below W0.heap.size W0 (U27.alloc (.cells #[.int .u64 0, .int .u64 0, .int .u64 0, .int .u64 0, .int .u64 0, .int .u64 0, .int .u64 0, .int .u64 0] 36)) := hS.alloc hS.size _
          have hY9 : (U27.alloc (.cells #[.int .u64 0, .int .u64 0, .int .u64 0, .int .u64 0, .int .u64 0, .int .u64 0, .int .u64 0, .int .u64 0] 36)).heap[B9]? = _ := (heap_old _ _ (Array.getElem?_eq_some_iff.1 hZ9).1).trans hZ9
          clear hZ9
          have hZ9 := hY9
          clear hY9
          have hN89 : B9 ≠ B8 := by rw [hBe]; exact Nat.ne_of_lt (hLT9)
          rw [← hBe]
          have hLT8 : B8 < (U27.alloc (.cells #[.int .u64 0, .int .u64 0, .int .u64 0, .int .u64 0, .int .u64 0, .int .u64 0, .int .u64 0, .int .u64 0] 36)).heap.size := (Array.getElem?_eq_some_iff.1 hZ8).1
          have hQ9 : B9 < (U27.alloc (.cells #[.int .u64 0, .int .u64 0, .int .u64 0, .int .u64 0, .int .u64 0, .int .u64 0, .int .u64 0, .int .u64 0] 36)).heap.size := (Array.getElem?_eq_some_iff.1 hZ9).1
          clear hLT9
          have hLT9 := hQ9
          clear hQ9
          generalize (U27.alloc (.cells #[.int .u64 0, .int .u64 0, .int .u64 0, .int .u64 0, .int .u64 0, .int .u64 0, .int .u64 0, .int .u64 0] 36)) = U30 at hZ8 hZ9 hSA hLT8 hLT9 ⊢
          refine hK.out _ _ hSA (fun hS => ?_)
          clear hK K hSA hBe
          refine wpAnyH_ready (rs := [4]) (by kernel_rfl) (by simp) ?_
          refine AllReadyH.cons rfl (fun K hK => ?_) AllReadyH.nil
          · go_simp
            refine (HD.out _).mono ?_
            rintro e U31 ⟨rfl, hbc⟩
            refine hK.out _ _ (hS.trans (hbc.mono hS.size)) (fun hS => ?_)
            replace hZ9 := (hbc.block B9 (Array.getElem?_eq_some_iff.1 hZ9).1).trans hZ9
            replace hLT9 := (Array.getElem?_eq_some_iff.1 hZ9).1
            replace hZ8 := (hbc.block B8 (Array.getElem?_eq_some_iff.1 hZ8).1).trans hZ8
            replace hLT8 := (Array.getElem?_eq_some_iff.1 hZ8).1
            clear hK K hbc
            refine wpAnyH_take (i := 5) (v := ?_) rfl (by kernel_rfl) (by kernel_rfl) (by kernel_rfl) (fun _ _ _ h => h) (Or.inl ⟨by rfl, ?_⟩) hS ?_
            rotate_left
            · intro V hV
              go_simp
              (try with_reducible rfl)
            simp only [Act.put]
            refine wpAnyH_take (i := 6) (v := ?_) rfl (by kernel_rfl) (by kernel_rfl) (by kernel_rfl) (fun _ _ _ h => h) (Or.inl ⟨by rfl, ?_⟩) hS ?_
            rotate_left
            · intro V hV
              go_simp
              (try with_reducible rfl)
            simp only [Act.put]
            refine wpAnyH_take (i := 7) (v := ?_) rfl (by kernel_rfl) (by kernel_rfl) (by kernel_rfl) (fun _ _ _ h => h) (Or.inl ⟨by rfl, ?_⟩) hS ?_
            rotate_left
            · intro V hV
              go_simp
              (try with_reducible rfl)
            simp only [Act.put]
            obtain ⟨a0, a1, a2, a3, a4, a5, a6, a7⟩ := cells8 hZ8
            have fa : ∀ o, U31.frozen? ⟨B8, o, none⟩ = false := fun o => blk_free hZ8
            refine wpAnyH_ready (rs := [10]) (by kernel_rfl) (by simp) (AllReadyH.cons rfl (fun K hK => ?_) AllReadyH.nil)
            go_simp
            have g8 := stored8 (z0 := .int .u64 q0) (z1 := .int .u64 q1) (z2 := .int .u64 q2) (z3 := .int .u64 q3) (z4 := .int .u64 q4) (z5 := .int .u64 q5) (z6 := .int .u64 q6) (z7 := .int .u64 q7) hZ8
            have hSB := below_stored8 (b := B8) (z0 := .int .u64 q0) (z1 := .int .u64 q1) (z2 := .int .u64 q2) (z3 := .int .u64 q3) (z4 := .int .u64 q4) (z5 := .int .u64 q5) (z6 := .int .u64 q6) (z7 := .int .u64 q7) hS hL8
            have o9 := (other8 (b := B8) (c := B9) (z0 := .int .u64 q0) (z1 := .int .u64 q1) (z2 := .int .u64 q2) (z3 := .int .u64 q3) (z4 := .int .u64 q4) (z5 := .int .u64 q5) (z6 := .int .u64 q6) (z7 := .int .u64 q7) (by first | exact hN98 | exact (hN98).symm | exact hN89 | exact (hN89).symm)).trans hZ9
            clear hZ9
            have hZ9 := o9
            clear o9
            generalize ((((((((U31.setCell ⟨B8, 0, none⟩ (.int .u64 q0)).setCell ⟨B8, 1, none⟩ (.int .u64 q1)).setCell ⟨B8, 2, none⟩ (.int .u64 q2)).setCell ⟨B8, 3, none⟩ (.int .u64 q3)).setCell ⟨B8, 4, none⟩ (.int .u64 q4)).setCell ⟨B8, 5, none⟩ (.int .u64 q5)).setCell ⟨B8, 6, none⟩ (.int .u64 q6)).setCell ⟨B8, 7, none⟩ (.int .u64 q7)) = U31x at g8 hSB hZ9 ⊢
            refine hK.out _ _ hSB (fun hS => ?_)
            clear hK K hSB a0 a1 a2 a3 a4 a5 a6 a7 fa hZ8
            obtain ⟨a0, a1, a2, a3⟩ := cells4 hZ9
            have fa : ∀ o, U31x.frozen? ⟨B9, o, none⟩ = false := fun o => blk_free hZ9
            refine wpAnyH_ready (rs := [11]) (by kernel_rfl) (by simp) (AllReadyH.cons rfl (fun K hK => ?_) AllReadyH.nil)
            go_simp
            have g9 := stored4 (z0 := .int .u64 z0) (z1 := .int .u64 z1) (z2 := .int .u64 z2) (z3 := .int .u64 z3) hZ9
            have hSB := below_stored4 (b := B9) (z0 := .int .u64 z0) (z1 := .int .u64 z1) (z2 := .int .u64 z2) (z3 := .int .u64 z3) hS hL9
            have o8 := (other4 (b := B9) (c := B8) (z0 := .int .u64 z0) (z1 := .int .u64 z1) (z2 := .int .u64 z2) (z3 := .int .u64 z3) (by first | exact hN89 | exact (hN89).symm | exact hN98 | exact (hN98).symm)).trans g8
            clear g8
            have g8 := o8
            clear o8
            generalize ((((U31x.setCell ⟨B9, 0, none⟩ (.int .u64 z0)).setCell ⟨B9, 1, none⟩ (.int .u64 z1)).setCell ⟨B9, 2, none⟩ (.int .u64 z2)).setCell ⟨B9, 3, none⟩ (.int .u64 z3)) = U31xx at g9 hSB g8 ⊢
            refine hK.out _ _ hSB (fun hS => wpAnyH_done (by kernel_rfl) ?_ _)
            clear hK K
            go_wp2_with fail
            go_meet
            exact ⟨B9, rfl, g9, hL9, hSB⟩
      · go_simp
        obtain ⟨B8, hBe⟩ : ∃ B8, B8 = U26.heap.size := ⟨_, rfl⟩
        have hZ8 : (U26.alloc (.cells #[.int .u64 0, .int .u64 0, .int .u64 0, .int .u64 0, .int .u64 0, .int .u64 0, .int .u64 0, .int .u64 0] 36)).heap[B8]? = some (.cells #[.int .u64 0, .int .u64 0, .int .u64 0, .int .u64 0, .int .u64 0, .int .u64 0, .int .u64 0, .int .u64 0] 36 (0, 0)) := by rw [hBe]; exact heap_new _ _
        have hL8 : W0.heap.size ≤ B8 := by rw [hBe]; exact hS.size
        have hSA : Below W0.heap.size W0 (U26.alloc (.cells #[.int .u64 0, .int .u64 0, .int .u64 0, .int .u64 0, .int .u64 0, .int .u64 0, .int .u64 0, .int .u64 0] 36)) := hS.alloc hS.size _
        have hY9 : (U26.alloc (.cells #[.int .u64 0, .int .u64 0, .int .u64 0, .int .u64 0, .int .u64 0, .int .u64 0, .int .u64 0, .int .u64 0] 36)).heap[B9]? = _ := (heap_old _ _ (Array.getElem?_eq_some_iff.1 hZ9).1).trans hZ9
        clear hZ9
        have hZ9 := hY9
        clear hY9
        have hN89 : B9 ≠ B8 := by rw [hBe]; exact Nat.ne_of_lt (hLT9)
        rw [← hBe]
        have hLT8 : B8 < (U26.alloc (.cells #[.int .u64 0, .int .u64 0, .int .u64 0, .int .u64 0, .int .u64 0, .int .u64 0, .int .u64 0, .int .u64 0] 36)).heap.size := (Array.getElem?_eq_some_iff.1 hZ8).1
        have hQ9 : B9 < (U26.alloc (.cells #[.int .u64 0, .int .u64 0, .int .u64 0, .int .u64 0, .int .u64 0, .int .u64 0, .int .u64 0, .int .u64 0] 36)).heap.size := (Array.getElem?_eq_some_iff.1 hZ9).1
        clear hLT9
        have hLT9 := hQ9
        clear hQ9
        generalize (U26.alloc (.cells #[.int .u64 0, .int .u64 0, .int .u64 0, .int .u64 0, .int .u64 0, .int .u64 0, .int .u64 0, .int .u64 0] 36)) = U32 at hZ8 hZ9 hSA hLT8 hLT9 ⊢
        refine hK.out _ _ hSA (fun hS => ?_)
        clear hK K hSA hBe
        refine wpAnyH_ready (rs := [2]) (by kernel_rfl) (by simp) ?_
        refine AllReadyH.cons rfl (fun K hK => ?_) AllReadyH.nil
        · go_simp
          refine (HW.out _).mono ?_
          rintro e U33 ⟨rfl, hbc⟩
          refine hK.out _ _ (hS.trans (hbc.mono hS.size)) (fun hS => ?_)
          replace hZ9 := (hbc.block B9 (Array.getElem?_eq_some_iff.1 hZ9).1).trans hZ9
          replace hLT9 := (Array.getElem?_eq_some_iff.1 hZ9).1
          replace hZ8 := (hbc.block B8 (Array.getElem?_eq_some_iff.1 hZ8).1).trans hZ8
          replace hLT8 := (Array.getElem?_eq_some_iff.1 hZ8).1
          clear hK K hbc
          refine wpAnyH_ready (rs := [4]) (by kernel_rfl) (by simp) ?_
          refine AllReadyH.cons rfl (fun K hK => ?_) AllReadyH.nil
          · go_simp
            refine (HD.out _).mono ?_
            rintro e U34 ⟨rfl, hbc⟩
            refine hK.out _ _ (hS.trans (hbc.mono hS.size)) (fun hS => ?_)
            replace hZ9 := (hbc.block B9 (Array.getElem?_eq_some_iff.1 hZ9).1).trans hZ9
            replace hLT9 := (Array.getElem?_eq_some_iff.1 hZ9).1
            replace hZ8 := (hbc.block B8 (Array.getElem?_eq_some_iff.1 hZ8).1).trans hZ8
            replace hLT8 := (Array.getElem?_eq_some_iff.1 hZ8).1
            clear hK K hbc
            refine wpAnyH_take (i := 5) (v := ?_) rfl (by kernel_rfl) (by kernel_rfl) (by kernel_rfl) (fun _ _ _ h => h) (Or.inl ⟨by rfl, ?_⟩) hS ?_
            rotate_left
            · intro V hV
              go_simp
              (try with_reducible rfl)
            simp only [Act.put]
            refine wpAnyH_take (i := 6) (v := ?_) rfl (by kernel_rfl) (by kernel_rfl) (by kernel_rfl) (fun _ _ _ h => h) (Or.inl ⟨by rfl, ?_⟩) hS ?_
            rotate_left
            · intro V hV
              go_simp
              (try with_reducible rfl)
            simp only [Act.put]
            refine wpAnyH_take (i := 7) (v := ?_) rfl (by kernel_rfl) (by kernel_rfl) (by kernel_rfl) (fun _ _ _ h => h) (Or.inl ⟨by rfl, ?_⟩) hS ?_
            rotate_left
            · intro V hV
              go_simp
              (try with_reducible rfl)
            simp only [Act.put]
            obtain ⟨a0, a1, a2, a3, a4, a5, a6, a7⟩ := cells8 hZ8
            have fa : ∀ o, U34.frozen? ⟨B8, o, none⟩ = false := fun o => blk_free hZ8
            refine wpAnyH_ready (rs := [10]) (by kernel_rfl) (by simp) (AllReadyH.cons rfl (fun K hK => ?_) AllReadyH.nil)
            go_simp
            have g8 := stored8 (z0 := .int .u64 q0) (z1 := .int .u64 q1) (z2 := .int .u64 q2) (z3 := .int .u64 q3) (z4 := .int .u64 q4) (z5 := .int .u64 q5) (z6 := .int .u64 q6) (z7 := .int .u64 q7) hZ8
            have hSB := below_stored8 (b := B8) (z0 := .int .u64 q0) (z1 := .int .u64 q1) (z2 := .int .u64 q2) (z3 := .int .u64 q3) (z4 := .int .u64 q4) (z5 := .int .u64 q5) (z6 := .int .u64 q6) (z7 := .int .u64 q7) hS hL8
            have o9 := (other8 (b := B8) (c := B9) (z0 := .int .u64 q0) (z1 := .int .u64 q1) (z2 := .int .u64 q2) (z3 := .int .u64 q3) (z4 := .int .u64 q4) (z5 := .int .u64 q5) (z6 := .int .u64 q6) (z7 := .int .u64 q7) (by first | exact hN98 | exact (hN98).symm | exact hN89 | exact (hN89).symm)).trans hZ9
            clear hZ9
            have hZ9 := o9
            clear o9
            generalize ((((((((U34.setCell ⟨B8, 0, none⟩ (.int .u64 q0)).setCell ⟨B8, 1, none⟩ (.int .u64 q1)).setCell ⟨B8, 2, none⟩ (.int .u64 q2)).setCell ⟨B8, 3, none⟩ (.int .u64 q3)).setCell ⟨B8, 4, none⟩ (.int .u64 q4)).setCell ⟨B8, 5, none⟩ (.int .u64 q5)).setCell ⟨B8, 6, none⟩ (.int .u64 q6)).setCell ⟨B8, 7, none⟩ (.int .u64 q7)) = U34x at g8 hSB hZ9 ⊢
            refine hK.out _ _ hSB (fun hS => ?_)
            clear hK K hSB a0 a1 a2 a3 a4 a5 a6 a7 fa hZ8
            obtain ⟨a0, a1, a2, a3⟩ := cells4 hZ9
            have fa : ∀ o, U34x.frozen? ⟨B9, o, none⟩ = false := fun o => blk_free hZ9
            refine wpAnyH_ready (rs := [11]) (by kernel_rfl) (by simp) (AllReadyH.cons rfl (fun K hK => ?_) AllReadyH.nil)
            go_simp
            have g9 := stored4 (z0 := .int .u64 z0) (z1 := .int .u64 z1) (z2 := .int .u64 z2) (z3 := .int .u64 z3) hZ9
            have hSB := below_stored4 (b := B9) (z0 := .int .u64 z0) (z1 := .int .u64 z1) (z2 := .int .u64 z2) (z3 := .int .u64 z3) hS hL9
            have o8 := (other4 (b := B9) (c := B8) (z0 := .int .u64 z0) (z1 := .int .u64 z1) (z2 := .int .u64 z2) (z3 := .int .u64 z3) (by first | exact hN89 | exact (hN89).symm | exact hN98 | exact (hN98).symm)).trans g8
            clear g8
            have g8 := o8
            clear o8
            generalize ((((U34x.setCell ⟨B9, 0, none⟩ (.int .u64 z0)).setCell ⟨B9, 1, none⟩ (.int .u64 z1)).setCell ⟨B9, 2, none⟩ (.int .u64 z2)).setCell ⟨B9, 3, none⟩ (.int .u64 z3)) = U34xx at g9 hSB g8 ⊢
            refine hK.out _ _ hSB (fun hS => wpAnyH_done (by kernel_rfl) ?_ _)
            clear hK K
            go_wp2_with fail
            go_meet
            exact ⟨B9, rfl, g9, hL9, hSB⟩
  case rest =>
    obtain ⟨B, rfl, hq, hlB, hbb⟩ := hcut
    obtain ⟨b0, b1, b2, b3⟩ := cells4 hq
    obtain ⟨_, k0, k1, k2, k3, h0, h1, h2, h3⟩ := kept4 hbb HRB.out
    have HB3 : Hid (Below w.heap.size w wc) := HB0.out.trans (hbb.mono HB0.out.size)
    clear hq hlB hbb
    go_wp2
    refine bodyPost_ret (v := .agg #[.int .u64 z0, .int .u64 z1, .int .u64 z2, .int .u64 z3]) (by simp [results, Try.results43, go_sem, k0, k1, k2, k3, World.cell?_setCell_same]) rfl ⟨rfl, ?_⟩
    repeat first | exact HB3.out | apply Below.drew | (refine Below.alloc ?_ (by simp <;> omega) _) | (refine Below.setCell ?_ (by simp <;> omega) _)

end Go.Proofs.Ytpnijncoldihfaa
