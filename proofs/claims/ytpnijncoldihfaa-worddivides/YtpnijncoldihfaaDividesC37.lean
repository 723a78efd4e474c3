/-
  The document's quotients and rests of signed words.
-/
import Derived.Test.YtpnijncoldihfaaDividesC34
import Derived.Test.YtpnijncoldihfaaDividesC36
namespace Go.Proofs.Ytpnijncoldihfaa
open Go.RowKit Go.Shelf

theorem refSize_any (X : Nat) (w : World) : Calls Try.prog 99 #[wv X] w fun e w' => e = .returned (wv (sizeN X)) ∧ Below w.heap.size w w' := by
  unfold sizeN
  by_cases h : negB X = true
  · rw [if_pos h]; exact refSize_neg X h w
  · rw [if_neg h]; exact refSize_pos X (by simpa using h) w

set_option maxHeartbeats 4000000 in
set_option maxRecDepth 100000 in
theorem refSdiv_any (X Y : Nat) (w : World) : Calls Try.prog 38 #[wv X, wv Y] w fun e w' => e = .returned (wv (signedN (negB X != negB Y) (sizeN X % M256 / (sizeN Y % M256)))) ∧ Below w.heap.size w w' := by
  have c1 := fun W => refSize_any X W
  have c2 := fun W => refSize_any Y W
  have c3 := fun W => refDiv_any (sizeN X) (sizeN Y) W
  have c4 := fun W => refBelow_any X W
  have c5 := fun W => refBelow_any Y W
  have c6 := fun W => refNeg_any (sizeN X % M256 / (sizeN Y % M256)) W
  generalize negB X = nx at c4 ⊢
  generalize negB Y = ny at c5 ⊢
  obtain ⟨x0, x1, x2, x3, hx⟩ := wv_form X
  obtain ⟨y0, y1, y2, y3, hy⟩ := wv_form Y
  obtain ⟨a0, a1, a2, a3, ha⟩ := wv_form (sizeN X)
  obtain ⟨b0, b1, b2, b3, hb⟩ := wv_form (sizeN Y)
  obtain ⟨q0, q1, q2, q3, hq⟩ := wv_form (sizeN X % M256 / (sizeN Y % M256))
  obtain ⟨z0, z1, z2, z3, hz⟩ := wv_form (negN (sizeN X % M256 / (sizeN Y % M256)))
  have hres : ∀ b : Bool, wv (signedN b (sizeN X % M256 / (sizeN Y % M256))) = if b then .agg #[.int .u64 z0, .int .u64 z1, .int .u64 z2, .int .u64 z3] else .agg #[.int .u64 q0, .int .u64 q1, .int .u64 q2, .int .u64 q3] := fun b => by
    cases b
    · exact hq
    · exact hz
  rw [hres]
  simp only [hx, hy, ha, hb, hq, hz] at c1 c2 c3 c4 c5 c6 ⊢
  have C1 := hideP c1
  have C2 := hideP c2
  have C3 := hideP c3
  have C4 := hideP c4
  have C5 := hideP c5
  have C6 := hideP c6
  clear c1 c2 c3 c4 c5 c6 hx hy ha hb hq hz hres
  go_enter Try.func38, Try.ntmps38
  go_wp2_with fail
  refine at_world_d (fun W0 hW0 => ?_)
  have HBx : Hid (W0.heap[w.heap.size]? = some (.cells #[.int .u64 x0, .int .u64 x1, .int .u64 x2, .int .u64 x3] 23 (0, 0))) := by
    show _ = _
    rw [hW0, heap_old _ _ (by simp <;> omega), heap_old _ _ (by simp <;> omega)]
    exact heap_new _ _
  have HBy : Hid (W0.heap[w.heap.size + 1]? = some (.cells #[.int .u64 y0, .int .u64 y1, .int .u64 y2, .int .u64 y3] 23 (0, 0))) := by
    show _ = _
    rw [hW0, heap_old _ _ (by simp <;> omega)]
    exact heap_new1 _ _ _
  have HBr : Hid (W0.heap[w.heap.size + 1 + 1]? = some (.cells #[.int .u64 0, .int .u64 0, .int .u64 0, .int .u64 0] 23 (0, 0))) := by
    show _ = _
    rw [hW0]
    exact heap_new2 _ _ _ _
  have HBW : Hid (Below w.heap.size w W0) := by
    show Below _ _ _
    rw [hW0]
    exact ((((Below.refl _ w).alloc (Nat.le_refl _) _).alloc (by simp) _).alloc (by simp <;> omega) _)
  clear hW0
  obtain ⟨cx0, cx1, cx2, cx3⟩ := cells4 HBx.out
  obtain ⟨cy0, cy1, cy2, cy3⟩ := cells4 HBy.out
  have hlx := lt_of_block HBx.out
  have hly := lt_of_block HBy.out
  go_cut [5] (fun p wx => ∃ B : Nat, p = .pointer (some ⟨B, 0, none⟩) ∧ wx.heap[B]? = some (.cells #[.int .u64 q0, .int .u64 q1, .int .u64 q2, .int .u64 q3] 23 (0, 0)) ∧ W0.heap.size ≤ B ∧ Below W0.heap.size W0 wx)
  case first =>
    refine wp_region_heldS (S := fun V => Below W0.heap.size W0 V) (by kernel_rfl) (Below.refl _ _).drew (fun hS => ?_)
    refine wpAnyH_take (i := 0) (v := ?_) rfl (by kernel_rfl) (by kernel_rfl) (by kernel_rfl) (fun _ _ _ h => h) (Or.inl ⟨by kernel_rfl, ?_⟩) hS ?_
    rotate_left
    · intro V hV
      have k0 := (hV.cell (p := ⟨w.heap.size, 0, none⟩) hlx).trans cx0
      have k1 := (hV.cell (p := ⟨w.heap.size, 1, none⟩) hlx).trans cx1
      have k2 := (hV.cell (p := ⟨w.heap.size, 2, none⟩) hlx).trans cx2
      have k3 := (hV.cell (p := ⟨w.heap.size, 3, none⟩) hlx).trans cx3
      go_simp
      (try with_reducible rfl)
    simp only [Act.put, List.setIfInBounds_toArray]
    refine wpAnyH_take (i := 2) (v := ?_) rfl (by kernel_rfl) (by kernel_rfl) (by kernel_rfl) (fun _ _ _ h => h) (Or.inl ⟨by kernel_rfl, ?_⟩) hS ?_
    rotate_left
    · intro V hV
      have k0 := (hV.cell (p := ⟨w.heap.size + 1, 0, none⟩) hly).trans cy0
      have k1 := (hV.cell (p := ⟨w.heap.size + 1, 1, none⟩) hly).trans cy1
      have k2 := (hV.cell (p := ⟨w.heap.size + 1, 2, none⟩) hly).trans cy2
      have k3 := (hV.cell (p := ⟨w.heap.size + 1, 3, none⟩) hly).trans cy3
      go_simp
      (try with_reducible rfl)
    simp only [Act.put]
    refine wpAnyH_ready (rs := [1, 5]) (by kernel_rfl) (by simp) ?_
    refine AllReadyH.cons rfl (fun K hK => ?_) (AllReadyH.cons rfl (fun K hK => ?_) AllReadyH.nil)
    · go_simp
      refine (C1.out _).mono ?_
      rintro e U1 ⟨rfl, hbc⟩
      refine hK.out _ _ (hS.trans (hbc.mono hS.size)) (fun hS => ?_)
      clear hK K hbc
      refine wpAnyH_ready (rs := [3, 5]) (by kernel_rfl) (by simp) ?_
      refine AllReadyH.cons rfl (fun K hK => ?_) (AllReadyH.cons rfl (fun K hK => ?_) AllReadyH.nil)
      · go_simp
        refine (C2.out _).mono ?_
        rintro e U2 ⟨rfl, hbc⟩
        refine hK.out _ _ (hS.trans (hbc.mono hS.size)) (fun hS => ?_)
        clear hK K hbc
        refine wpAnyH_ready (rs := [4, 5]) (by kernel_rfl) (by simp) ?_
        refine AllReadyH.cons rfl (fun K hK => ?_) (AllReadyH.cons rfl (fun K hK => ?_) AllReadyH.nil)
        · go_simp
          refine (C3.out _).mono ?_
          rintro e U3 ⟨rfl, hbc⟩
          refine hK.out _ _ (hS.trans (hbc.mono hS.size)) (fun hS => ?_)
          clear hK K hbc
          refine wpAnyH_ready (rs := [5]) (by kernel_rfl) (by simp) ?_
          refine AllReadyH.cons rfl (fun K hK => ?_) AllReadyH.nil
          · go_simp
            obtain ⟨B5, hBe⟩ : ∃ B5, B5 = U3.heap.size := ⟨_, rfl⟩
            have hZ5 : (U3.alloc (.cells #[.int .u64 0, .int .u64 0, .int .u64 0, .int .u64 0] 23)).heap[B5]? = some (.cells #[.int .u64 0, .int .u64 0, .int .u64 0, .int .u64 0] 23 (0, 0)) := by rw [hBe]; exact heap_new _ _
            have hL5 : W0.heap.size ≤ B5 := by rw [hBe]; exact hS.size
            have hSA : Below W0.heap.size W0 (U3.alloc (.cells #[.int .u64 0, .int .u64 0, .int .u64 0, .int .u64 0] 23)) := hS.alloc hS.size _
            rw [← hBe]
            have hLT5 : B5 < (U3.alloc (.cells #[.int .u64 0, .int .u64 0, .int .u64 0, .int .u64 0] 23)).heap.size := (Array.getElem?_eq_some_iff.1 hZ5).1
            generalize (U3.alloc (.cells #[.int .u64 0, .int .u64 0, .int .u64 0, .int .u64 0] 23)) = U4 at hZ5  hSA hLT5  ⊢
            refine hK.out _ _ hSA (fun hS => ?_)
            clear hK K hSA hBe
            obtain ⟨a0, a1, a2, a3⟩ := cells4 hZ5
            have fa : ∀ o, U4.frozen? ⟨B5, o, none⟩ = false := fun o => blk_free hZ5
            refine wpAnyH_ready (rs := [6]) (by kernel_rfl) (by simp) (AllReadyH.cons rfl (fun K hK => ?_) AllReadyH.nil)
            go_simp
            have g5 := stored4 (z0 := .int .u64 q0) (z1 := .int .u64 q1) (z2 := .int .u64 q2) (z3 := .int .u64 q3) hZ5
            have hSB := below_stored4 (b := B5) (z0 := .int .u64 q0) (z1 := .int .u64 q1) (z2 := .int .u64 q2) (z3 := .int .u64 q3) hS hL5
            generalize ((((U4.setCell ⟨B5, 0, none⟩ (.int .u64 q0)).setCell ⟨B5, 1, none⟩ (.int .u64 q1)).setCell ⟨B5, 2, none⟩ (.int .u64 q2)).setCell ⟨B5, 3, none⟩ (.int .u64 q3)) = U4x at g5 hSB  ⊢
            refine hK.out _ _ hSB (fun hS => wpAnyH_done (by kernel_rfl) ?_ _)
            clear hK K
            go_wp2_with fail
            go_meet
            exact ⟨B5, rfl, g5, hL5, hSB⟩
        · go_simp
          obtain ⟨B5, hBe⟩ : ∃ B5, B5 = U2.heap.size := ⟨_, rfl⟩
          have hZ5 : (U2.alloc (.cells #[.int .u64 0, .int .u64 0, .int .u64 0, .int .u64 0] 23)).heap[B5]? = some (.cells #[.int .u64 0, .int .u64 0, .int .u64 0, .int .u64 0] 23 (0, 0)) := by rw [hBe]; exact heap_new _ _
          have hL5 : W0.heap.size ≤ B5 := by rw [hBe]; exact hS.size
          have hSA : Below W0.heap.size W0 (U2.alloc (.cells #[.int .u64 0, .int .u64 0, .int .u64 0, .int .u64 0] 23)) := hS.alloc hS.size _
          rw [← hBe]
          have hLT5 : B5 < (U2.alloc (.cells #[.int .u64 0, .int .u64 0, .int .u64 0, .int .u64 0] 23)).heap.size := (Array.getElem?_eq_some_iff.1 hZ5).1
          generalize (U2.alloc (.cells #[.int .u64 0, .int .u64 0, .int .u64 0, .int .u64 0] 23)) = U5 at hZ5  hSA hLT5  ⊢
          refine hK.out _ _ hSA (fun hS => ?_)
          clear hK K hSA hBe
          refine wpAnyH_ready (rs := [4]) (by kernel_rfl) (by simp) ?_
          refine AllReadyH.cons rfl (fun K hK => ?_) AllReadyH.nil
          · go_simp
            refine (C3.out _).mono ?_
            rintro e U6 ⟨rfl, hbc⟩
            refine hK.out _ _ (hS.trans (hbc.mono hS.size)) (fun hS => ?_)
            replace hZ5 := (hbc.block B5 (Array.getElem?_eq_some_iff.1 hZ5).1).trans hZ5
            replace hLT5 := (Array.getElem?_eq_some_iff.1 hZ5).1
            clear hK K hbc
            obtain ⟨a0, a1, a2, a3⟩ := cells4 hZ5
            have fa : ∀ o, U6.frozen? ⟨B5, o, none⟩ = false := fun o => blk_free hZ5
            refine wpAnyH_ready (rs := [6]) (by kernel_rfl) (by simp) (AllReadyH.cons rfl (fun K hK => ?_) AllReadyH.nil)
            go_simp
            have g5 := stored4 (z0 := .int .u64 q0) (z1 := .int .u64 q1) (z2 := .int .u64 q2) (z3 := .int .u64 q3) hZ5
            have hSB := below_stored4 (b := B5) (z0 := .int .u64 q0) (z1 := .int .u64 q1) (z2 := .int .u64 q2) (z3 := .int .u64 q3) hS hL5
            generalize ((((U6.setCell ⟨B5, 0, none⟩ (.int .u64 q0)).setCell ⟨B5, 1, none⟩ (.int .u64 q1)).setCell ⟨B5, 2, none⟩ (.int .u64 q2)).setCell ⟨B5, 3, none⟩ (.int .u64 q3)) = U6x at g5 hSB  ⊢
            refine hK.out _ _ hSB (fun hS => wpAnyH_done (by kernel_rfl) ?_ _)
            clear hK K
            go_wp2_with fail
            go_meet
            exact ⟨B5, rfl, g5, hL5, hSB⟩
      · go_simp
        obtain ⟨B5, hBe⟩ : ∃ B5, B5 = U1.heap.size := ⟨_, rfl⟩
        have hZ5 : (U1.alloc (.cells #[.int .u64 0, .int .u64 0, .int .u64 0, .int .u64 0] 23)).heap[B5]? = some (.cells #[.int .u64 0, .int .u64 0, .int .u64 0, .int .u64 0] 23 (0, 0)) := by rw [hBe]; exact heap_new _ _
        have hL5 : W0.heap.size ≤ B5 := by rw [hBe]; exact hS.size
        have hSA : Below W0.heap.size W0 (U1.alloc (.cells #[.int .u64 0, .int .u64 0, .int .u64 0, .int .u64 0] 23)) := hS.alloc hS.size _
        rw [← hBe]
        have hLT5 : B5 < (U1.alloc (.cells #[.int .u64 0, .int .u64 0, .int .u64 0, .int .u64 0] 23)).heap.size := (Array.getElem?_eq_some_iff.1 hZ5).1
        generalize (U1.alloc (.cells #[.int .u64 0, .int .u64 0, .int .u64 0, .int .u64 0] 23)) = U7 at hZ5  hSA hLT5  ⊢
        refine hK.out _ _ hSA (fun hS => ?_)
        clear hK K hSA hBe
        refine wpAnyH_ready (rs := [3]) (by kernel_rfl) (by simp) ?_
        refine AllReadyH.cons rfl (fun K hK => ?_) AllReadyH.nil
        · go_simp
          refine (C2.out _).mono ?_
          rintro e U8 ⟨rfl, hbc⟩
          refine hK.out _ _ (hS.trans (hbc.mono hS.size)) (fun hS => ?_)
          replace hZ5 := (hbc.block B5 (Array.getElem?_eq_some_iff.1 hZ5).1).trans hZ5
          replace hLT5 := (Array.getElem?_eq_some_iff.1 hZ5).1
          clear hK K hbc
          refine wpAnyH_ready (rs := [4]) (by kernel_rfl) (by simp) ?_
          refine AllReadyH.cons rfl (fun K hK => ?_) AllReadyH.nil
          · go_simp
            refine (C3.out _).mono ?_
            rintro e U9 ⟨rfl, hbc⟩
            refine hK.out _ _ (hS.trans (hbc.mono hS.size)) (fun hS => ?_)
            replace hZ5 := (hbc.block B5 (Array.getElem?_eq_some_iff.1 hZ5).1).trans hZ5
            replace hLT5 := (Array.getElem?_eq_some_iff.1 hZ5).1
            clear hK K hbc
            obtain ⟨a0, a1, a2, a3⟩ := cells4 hZ5
            have fa : ∀ o, U9.frozen? ⟨B5, o, none⟩ = false := fun o => blk_free hZ5
            refine wpAnyH_ready (rs := [6]) (by kernel_rfl) (by simp) (AllReadyH.cons rfl (fun K hK => ?_) AllReadyH.nil)
            go_simp
            have g5 := stored4 (z0 := .int .u64 q0) (z1 := .int .u64 q1) (z2 := .int .u64 q2) (z3 := .int .u64 q3) hZ5
            have hSB := below_stored4 (b := B5) (z0 := .int .u64 q0) (z1 := .int .u64 q1) (z2 := .int .u64 q2) (z3 := .int .u64 q3) hS hL5
            generalize ((((U9.setCell ⟨B5, 0, none⟩ (.int .u64 q0)).setCell ⟨B5, 1, none⟩ (.int .u64 q1)).setCell ⟨B5, 2, none⟩ (.int .u64 q2)).setCell ⟨B5, 3, none⟩ (.int .u64 q3)) = U9x at g5 hSB  ⊢
            refine hK.out _ _ hSB (fun hS => wpAnyH_done (by kernel_rfl) ?_ _)
            clear hK K
            go_wp2_with fail
            go_meet
            exact ⟨B5, rfl, g5, hL5, hSB⟩
    · go_simp
      obtain ⟨B5, hBe⟩ : ∃ B5, B5 = W0.heap.size := ⟨_, rfl⟩
      have hZ5 : (W0.alloc (.cells #[.int .u64 0, .int .u64 0, .int .u64 0, .int .u64 0] 23)).drew.heap[B5]? = some (.cells #[.int .u64 0, .int .u64 0, .int .u64 0, .int .u64 0] 23 (0, 0)) := by rw [hBe]; exact heap_new _ _
      have hL5 : W0.heap.size ≤ B5 := by rw [hBe]; exact Nat.le_refl _
      have hSA : Below W0.heap.size W0 (W0.alloc (.cells #[.int .u64 0, .int .u64 0, .int .u64 0, .int .u64 0] 23)).drew := ((Below.refl _ W0).alloc (Nat.le_refl _) _).drew
      rw [← hBe]
      have hLT5 : B5 < (W0.alloc (.cells #[.int .u64 0, .int .u64 0, .int .u64 0, .int .u64 0] 23)).drew.heap.size := (Array.getElem?_eq_some_iff.1 hZ5).1
      generalize (W0.alloc (.cells #[.int .u64 0, .int .u64 0, .int .u64 0, .int .u64 0] 23)).drew = U10 at hZ5  hSA hLT5  ⊢
      refine hK.out _ _ hSA (fun hS => ?_)
      clear hK K hSA hBe
      refine wpAnyH_ready (rs := [1]) (by kernel_rfl) (by simp) ?_
      refine AllReadyH.cons rfl (fun K hK => ?_) AllReadyH.nil
      · go_simp
        refine (C1.out _).mono ?_
        rintro e U11 ⟨rfl, hbc⟩
        refine hK.out _ _ (hS.trans (hbc.mono hS.size)) (fun hS => ?_)
        replace hZ5 := (hbc.block B5 (Array.getElem?_eq_some_iff.1 hZ5).1).trans hZ5
        replace hLT5 := (Array.getElem?_eq_some_iff.1 hZ5).1
        clear hK K hbc
        refine wpAnyH_ready (rs := [3]) (by kernel_rfl) (by simp) ?_
        refine AllReadyH.cons rfl (fun K hK => ?_) AllReadyH.nil
        · go_simp
          refine (C2.out _).mono ?_
          rintro e U12 ⟨rfl, hbc⟩
          refine hK.out _ _ (hS.trans (hbc.mono hS.size)) (fun hS => ?_)
          replace hZ5 := (hbc.block B5 (Array.getElem?_eq_some_iff.1 hZ5).1).trans hZ5
          replace hLT5 := (Array.getElem?_eq_some_iff.1 hZ5).1
          clear hK K hbc
          refine wpAnyH_ready (rs := [4]) (by kernel_rfl) (by simp) ?_
          refine AllReadyH.cons rfl (fun K hK => ?_) AllReadyH.nil
          · go_simp
            refine (C3.out _).mono ?_
            rintro e U13 ⟨rfl, hbc⟩
            refine hK.out _ _ (hS.trans (hbc.mono hS.size)) (fun hS => ?_)
            replace hZ5 := (hbc.block B5 (Array.getElem?_eq_some_iff.1 hZ5).1).trans hZ5
            replace hLT5 := (Array.getElem?_eq_some_iff.1 hZ5).1
            clear hK K hbc
            obtain ⟨a0, a1, a2, a3⟩ := cells4 hZ5
            have fa : ∀ o, U13.frozen? ⟨B5, o, none⟩ = false := fun o => blk_free hZ5
            refine wpAnyH_ready (rs := [6]) (by kernel_rfl) (by simp) (AllReadyH.cons rfl (fun K hK => ?_) AllReadyH.nil)
            go_simp
            have g5 := stored4 (z0 := .int .u64 q0) (z1 := .int .u64 q1) (z2 := .int .u64 q2) (z3 := .int .u64 q3) hZ5
            have hSB := below_stored4 (b := B5) (z0 := .int .u64 q0) (z1 := .int .u64 q1) (z2 := .int .u64 q2) (z3 := .int .u64 q3) hS hL5
            generalize ((((U13.setCell ⟨B5, 0, none⟩ (.int .u64 q0)).setCell ⟨B5, 1, none⟩ (.int .u64 q1)).setCell ⟨B5, 2, none⟩ (.int .u64 q2)).setCell ⟨B5, 3, none⟩ (.int .u64 q3)) = U13x at g5 hSB  ⊢
            refine hK.out _ _ hSB (fun hS => wpAnyH_done (by kernel_rfl) ?_ _)
            clear hK K
            go_wp2_with fail
            go_meet
            exact ⟨B5, rfl, g5, hL5, hSB⟩
  case rest =>
    obtain ⟨B, rfl, gq, hlB, hbx⟩ := hcut
    rename World => wA
    have HLR : Hid (w.heap.size + 1 + 1 < B) := Nat.lt_of_lt_of_le (lt_of_block HBr.out) hlB
    replace HBx : Hid (wA.heap[w.heap.size]? = some (.cells #[.int .u64 x0, .int .u64 x1, .int .u64 x2, .int .u64 x3] 23 (0, 0))) := (hbx.block _ (Array.getElem?_eq_some_iff.1 HBx.out).1).trans HBx.out
    replace HBy : Hid (wA.heap[w.heap.size + 1]? = some (.cells #[.int .u64 y0, .int .u64 y1, .int .u64 y2, .int .u64 y3] 23 (0, 0))) := (hbx.block _ (Array.getElem?_eq_some_iff.1 HBy.out).1).trans HBy.out
    replace HBr : Hid (wA.heap[w.heap.size + 1 + 1]? = some (.cells #[.int .u64 0, .int .u64 0, .int .u64 0, .int .u64 0] 23 (0, 0))) := (hbx.block _ (Array.getElem?_eq_some_iff.1 HBr.out).1).trans HBr.out
    replace HBW : Hid (Below w.heap.size w wA) := HBW.out.trans (hbx.mono HBW.out.size)
    have HBq := hideP gq
    clear gq hbx hlB cx0 cx1 cx2 cx3 cy0 cy1 cy2 cy3 hlx hly
    obtain ⟨cx0, cx1, cx2, cx3⟩ := cells4 HBx.out
    have hlx := (Array.getElem?_eq_some_iff.1 HBx.out).1
    obtain ⟨cy0, cy1, cy2, cy3⟩ := cells4 HBy.out
    have hly := (Array.getElem?_eq_some_iff.1 HBy.out).1
    go_wp2_with fail
    refine wp_region_heldS (S := fun V => Below wA.heap.size wA V) (by kernel_rfl) (Below.refl _ _).drew (fun hS => ?_)
    refine wpAnyH_takeL (i := 0) (v := ?_) rfl (by kernel_rfl) (by kernel_rfl) (by kernel_rfl) (fun _ _ _ h => h) (Or.inl ⟨by kernel_rfl, ?_⟩) hS ?_
    rotate_left
    · intro V hV
      have k0 := (hV.cell (p := ⟨w.heap.size, 0, none⟩) hlx).trans cx0
      have k1 := (hV.cell (p := ⟨w.heap.size, 1, none⟩) hlx).trans cx1
      have k2 := (hV.cell (p := ⟨w.heap.size, 2, none⟩) hlx).trans cx2
      have k3 := (hV.cell (p := ⟨w.heap.size, 3, none⟩) hlx).trans cx3
      go_simp
      (try with_reducible rfl)
    simp only [put_list, List.set_cons_succ, List.set_cons_zero]
    refine wpAnyH_takeL (i := 2) (v := ?_) rfl (by kernel_rfl) (by kernel_rfl) (by kernel_rfl) (fun _ _ _ h => h) (Or.inl ⟨by kernel_rfl, ?_⟩) hS ?_
    rotate_left
    · intro V hV
      have k0 := (hV.cell (p := ⟨w.heap.size + 1, 0, none⟩) hly).trans cy0
      have k1 := (hV.cell (p := ⟨w.heap.size + 1, 1, none⟩) hly).trans cy1
      have k2 := (hV.cell (p := ⟨w.heap.size + 1, 2, none⟩) hly).trans cy2
      have k3 := (hV.cell (p := ⟨w.heap.size + 1, 3, none⟩) hly).trans cy3
      go_simp
      (try with_reducible rfl)
    simp only [put_list, List.set_cons_succ, List.set_cons_zero]
    refine wpAnyH_ready (rs := [1]) (by kernel_rfl) (by simp) (AllReadyH.cons rfl (fun K hK => ?_) AllReadyH.nil)
    go_simp
    refine (C4.out _).mono ?_
    rintro e U1 ⟨rfl, hbc⟩
    refine hK.out _ _ (hS.trans (hbc.mono hS.size)) (fun hS => ?_)
    clear hK K hbc
    refine wpAnyH_ready (rs := [3]) (by kernel_rfl) (by simp) (AllReadyH.cons rfl (fun K hK => ?_) AllReadyH.nil)
    go_simp
    refine (C5.out _).mono ?_
    rintro e U2 ⟨rfl, hbc⟩
    refine hK.out _ _ (hS.trans (hbc.mono hS.size)) (fun hS => ?_)
    clear hK K hbc
    refine wpAnyH_takeL (i := 4) (v := ?_) rfl (by kernel_rfl) (by kernel_rfl) (by kernel_rfl) (fun _ _ _ h => h) (Or.inl ⟨by kernel_rfl, ?_⟩) hS ?_
    rotate_left
    · intro V hV
      go_simp
      (try with_reducible rfl)
    simp only [put_list, List.set_cons_succ, List.set_cons_zero]
    refine wpAnyH_done (by kernel_rfl) ?_ _
    clear cx0 cx1 cx2 cx3 hlx
    clear cy0 cy1 cy2 cy3 hly
    replace HBx : Hid (U2.heap[w.heap.size]? = some (.cells #[.int .u64 x0, .int .u64 x1, .int .u64 x2, .int .u64 x3] 23 (0, 0))) := (hS.block _ (Array.getElem?_eq_some_iff.1 HBx.out).1).trans HBx.out
    replace HBy : Hid (U2.heap[w.heap.size + 1]? = some (.cells #[.int .u64 y0, .int .u64 y1, .int .u64 y2, .int .u64 y3] 23 (0, 0))) := (hS.block _ (Array.getElem?_eq_some_iff.1 HBy.out).1).trans HBy.out
    replace HBr : Hid (U2.heap[w.heap.size + 1 + 1]? = some (.cells #[.int .u64 0, .int .u64 0, .int .u64 0, .int .u64 0] 23 (0, 0))) := (hS.block _ (Array.getElem?_eq_some_iff.1 HBr.out).1).trans HBr.out
    replace HBq : Hid (U2.heap[B]? = some (.cells #[.int .u64 q0, .int .u64 q1, .int .u64 q2, .int .u64 q3] 23 (0, 0))) := (hS.block _ (Array.getElem?_eq_some_iff.1 HBq.out).1).trans HBq.out
    replace HBW : Hid (Below w.heap.size w U2) := HBW.out.trans (hS.mono HBW.out.size)
    clear hS
    cases nx <;> cases ny
    · obtain ⟨cq0, cq1, cq2, cq3⟩ := cells4 HBq.out
      obtain ⟨g0, g1, g2, g3⟩ := cells4 HBr.out
      have fr : ∀ o, U2.frozen? ⟨w.heap.size + 1 + 1, o, none⟩ = false := fun o => blk_free HBr.out
      have hne : ¬ (B = w.heap.size + 1 + 1) := by have := HLR.out; omega
      have hne2 : ¬ (w.heap.size + 1 + 1 = B) := by have := HLR.out; omega
      go_wp2
      refine bodyPost_ret (v := .agg #[.int .u64 q0, .int .u64 q1, .int .u64 q2, .int .u64 q3]) (by simp [results, Try.results38, go_sem, g0, g1, g2, g3, World.cell?_setCell_same]) rfl ⟨rfl, ?_⟩
      repeat first | exact HBW.out | apply Below.drew | (refine Below.setCell ?_ (by simp <;> omega) _)
    · obtain ⟨cq0, cq1, cq2, cq3⟩ := cells4 HBq.out
      go_wp2_with fail
      refine (C6.out _).mono ?_
      rintro e V3 ⟨rfl, hb⟩
      obtain ⟨_, g0, g1, g2, g3, f0, f1, f2, f3⟩ := kept4 hb HBr.out
      replace HBW : Hid (Below w.heap.size w V3) := HBW.out.trans (hb.mono HBW.out.size)
      clear hb cq0 cq1 cq2 cq3
      go_wp2
      refine bodyPost_ret (v := .agg #[.int .u64 z0, .int .u64 z1, .int .u64 z2, .int .u64 z3]) (by simp [results, Try.results38, go_sem, g0, g1, g2, g3, World.cell?_setCell_same]) rfl ⟨rfl, ?_⟩
      repeat first | exact HBW.out | apply Below.drew | (refine Below.setCell ?_ (by simp <;> omega) _)
    · obtain ⟨cq0, cq1, cq2, cq3⟩ := cells4 HBq.out
      go_wp2_with fail
      refine (C6.out _).mono ?_
      rintro e V3 ⟨rfl, hb⟩
      obtain ⟨_, g0, g1, g2, g3, f0, f1, f2, f3⟩ := kept4 hb HBr.out
      replace HBW : Hid (Below w.heap.size w V3) := HBW.out.trans (hb.mono HBW.out.size)
      clear hb cq0 cq1 cq2 cq3
      go_wp2
      refine bodyPost_ret (v := .agg #[.int .u64 z0, .int .u64 z1, .int .u64 z2, .int .u64 z3]) (by simp [results, Try.results38, go_sem, g0, g1, g2, g3, World.cell?_setCell_same]) rfl ⟨rfl, ?_⟩
      repeat first | exact HBW.out | apply Below.drew | (refine Below.setCell ?_ (by simp <;> omega) _)
    · obtain ⟨cq0, cq1, cq2, cq3⟩ := cells4 HBq.out
      obtain ⟨g0, g1, g2, g3⟩ := cells4 HBr.out
      have fr : ∀ o, U2.frozen? ⟨w.heap.size + 1 + 1, o, none⟩ = false := fun o => blk_free HBr.out
      have hne : ¬ (B = w.heap.size + 1 + 1) := by have := HLR.out; omega
      have hne2 : ¬ (w.heap.size + 1 + 1 = B) := by have := HLR.out; omega
      go_wp2
      refine bodyPost_ret (v := .agg #[.int .u64 q0, .int .u64 q1, .int .u64 q2, .int .u64 q3]) (by simp [results, Try.results38, go_sem, g0, g1, g2, g3, World.cell?_setCell_same]) rfl ⟨rfl, ?_⟩
      repeat first | exact HBW.out | apply Below.drew | (refine Below.setCell ?_ (by simp <;> omega) _)

set_option maxHeartbeats 4000000 in
set_option maxRecDepth 100000 in
theorem refSmod_any (X Y : Nat) (w : World) : Calls Try.prog 40 #[wv X, wv Y] w fun e w' => e = .returned (wv (signedN (negB X) (restN (sizeN X % M256) (sizeN Y % M256)))) ∧ Below w.heap.size w w' := by
  have c1 := fun W => refSize_any X W
  have c2 := fun W => refSize_any Y W
  have c3 := fun W => refMod_any (sizeN X) (sizeN Y) W
  have c4 := fun W => refBelow_any X W
  have c5 := fun W => refBelow_any Y W
  have c6 := fun W => refNeg_any (restN (sizeN X % M256) (sizeN Y % M256)) W
  generalize negB X = nx at c4 ⊢
  clear c5
  obtain ⟨x0, x1, x2, x3, hx⟩ := wv_form X
  obtain ⟨y0, y1, y2, y3, hy⟩ := wv_form Y
  obtain ⟨a0, a1, a2, a3, ha⟩ := wv_form (sizeN X)
  obtain ⟨b0, b1, b2, b3, hb⟩ := wv_form (sizeN Y)
  obtain ⟨q0, q1, q2, q3, hq⟩ := wv_form (restN (sizeN X % M256) (sizeN Y % M256))
  obtain ⟨z0, z1, z2, z3, hz⟩ := wv_form (negN (restN (sizeN X % M256) (sizeN Y % M256)))
  have hres : ∀ b : Bool, wv (signedN b (restN (sizeN X % M256) (sizeN Y % M256))) = if b then .agg #[.int .u64 z0, .int .u64 z1, .int .u64 z2, .int .u64 z3] else .agg #[.int .u64 q0, .int .u64 q1, .int .u64 q2, .int .u64 q3] := fun b => by
    cases b
    · exact hq
    · exact hz
  rw [hres]
  simp only [hx, hy, ha, hb, hq, hz] at c1 c2 c3 c4 c6 ⊢
  have C1 := hideP c1
  have C2 := hideP c2
  have C3 := hideP c3
  have C4 := hideP c4
  have C6 := hideP c6
  clear c1 c2 c3 c4 c6 hx hy ha hb hq hz hres
  go_enter Try.func40, Try.ntmps40
  go_wp2_with fail
  refine at_world_d (fun W0 hW0 => ?_)
  have HBx : Hid (W0.heap[w.heap.size]? = some (.cells #[.int .u64 x0, .int .u64 x1, .int .u64 x2, .int .u64 x3] 23 (0, 0))) := by
    show _ = _
    rw [hW0, heap_old _ _ (by simp <;> omega), heap_old _ _ (by simp <;> omega)]
    exact heap_new _ _
  have HBy : Hid (W0.heap[w.heap.size + 1]? = some (.cells #[.int .u64 y0, .int .u64 y1, .int .u64 y2, .int .u64 y3] 23 (0, 0))) := by
    show _ = _
    rw [hW0, heap_old _ _ (by simp <;> omega)]
    exact heap_new1 _ _ _
  have HBr : Hid (W0.heap[w.heap.size + 1 + 1]? = some (.cells #[.int .u64 0, .int .u64 0, .int .u64 0, .int .u64 0] 23 (0, 0))) := by
    show _ = _
    rw [hW0]
    exact heap_new2 _ _ _ _
  have HBW : Hid (Below w.heap.size w W0) := by
    show Below _ _ _
    rw [hW0]
    exact ((((Below.refl _ w).alloc (Nat.le_refl _) _).alloc (by simp) _).alloc (by simp <;> omega) _)
  clear hW0
  obtain ⟨cx0, cx1, cx2, cx3⟩ := cells4 HBx.out
  obtain ⟨cy0, cy1, cy2, cy3⟩ := cells4 HBy.out
  have hlx := lt_of_block HBx.out
  have hly := lt_of_block HBy.out
  go_cut [5] (fun p wx => ∃ B : Nat, p = .pointer (some ⟨B, 0, none⟩) ∧ wx.heap[B]? = some (.cells #[.int .u64 q0, .int .u64 q1, .int .u64 q2, .int .u64 q3] 23 (0, 0)) ∧ W0.heap.size ≤ B ∧ Below W0.heap.size W0 wx)
  case first =>
    refine wp_region_heldS (S := fun V => Below W0.heap.size W0 V) (by kernel_rfl) (Below.refl _ _).drew (fun hS => ?_)
    refine wpAnyH_take (i := 0) (v := ?_) rfl (by kernel_rfl) (by kernel_rfl) (by kernel_rfl) (fun _ _ _ h => h) (Or.inl ⟨by kernel_rfl, ?_⟩) hS ?_
    rotate_left
    · intro V hV
      have k0 := (hV.cell (p := ⟨w.heap.size, 0, none⟩) hlx).trans cx0
      have k1 := (hV.cell (p := ⟨w.heap.size, 1, none⟩) hlx).trans cx1
      have k2 := (hV.cell (p := ⟨w.heap.size, 2, none⟩) hlx).trans cx2
      have k3 := (hV.cell (p := ⟨w.heap.size, 3, none⟩) hlx).trans cx3
      go_simp
      (try with_reducible rfl)
    simp only [Act.put, List.setIfInBounds_toArray]
    refine wpAnyH_take (i := 2) (v := ?_) rfl (by kernel_rfl) (by kernel_rfl) (by kernel_rfl) (fun _ _ _ h => h) (Or.inl ⟨by kernel_rfl, ?_⟩) hS ?_
    rotate_left
    · intro V hV
      have k0 := (hV.cell (p := ⟨w.heap.size + 1, 0, none⟩) hly).trans cy0
      have k1 := (hV.cell (p := ⟨w.heap.size + 1, 1, none⟩) hly).trans cy1
      have k2 := (hV.cell (p := ⟨w.heap.size + 1, 2, none⟩) hly).trans cy2
      have k3 := (hV.cell (p := ⟨w.heap.size + 1, 3, none⟩) hly).trans cy3
      go_simp
      (try with_reducible rfl)
    simp only [Act.put]
    refine wpAnyH_ready (rs := [1, 5]) (by kernel_rfl) (by simp) ?_
    refine AllReadyH.cons rfl (fun K hK => ?_) (AllReadyH.cons rfl (fun K hK => ?_) AllReadyH.nil)
    · go_simp
      refine (C1.out _).mono ?_
      rintro e U1 ⟨rfl, hbc⟩
      refine hK.out _ _ (hS.trans (hbc.mono hS.size)) (fun hS => ?_)
      clear hK K hbc
      refine wpAnyH_ready (rs := [3, 5]) (by kernel_rfl) (by simp) ?_
      refine AllReadyH.cons rfl (fun K hK => ?_) (AllReadyH.cons rfl (fun K hK => ?_) AllReadyH.nil)
      · go_simp
        refine (C2.out _).mono ?_
        rintro e U2 ⟨rfl, hbc⟩
        refine hK.out _ _ (hS.trans (hbc.mono hS.size)) (fun hS => ?_)
        clear hK K hbc
        refine wpAnyH_ready (rs := [4, 5]) (by kernel_rfl) (by simp) ?_
        refine AllReadyH.cons rfl (fun K hK => ?_) (AllReadyH.cons rfl (fun K hK => ?_) AllReadyH.nil)
        · go_simp
          refine (C3.out _).mono ?_
          rintro e U3 ⟨rfl, hbc⟩
          refine hK.out _ _ (hS.trans (hbc.mono hS.size)) (fun hS => ?_)
          clear hK K hbc
          refine wpAnyH_ready (rs := [5]) (by kernel_rfl) (by simp) ?_
          refine AllReadyH.cons rfl (fun K hK => ?_) AllReadyH.nil
          · go_simp
            obtain ⟨B5, hBe⟩ : ∃ B5, B5 = U3.heap.size := ⟨_, rfl⟩
            have hZ5 : (U3.alloc (.cells #[.int .u64 0, .int .u64 0, .int .u64 0, .int .u64 0] 23)).heap[B5]? = some (.cells #[.int .u64 0, .int .u64 0, .int .u64 0, .int .u64 0] 23 (0, 0)) := by rw [hBe]; exact heap_new _ _
            have hL5 : W0.heap.size ≤ B5 := by rw [hBe]; exact hS.size
            have hSA : Below W0.heap.size W0 (U3.alloc (.cells #[.int .u64 0, .int .u64 0, .int .u64 0, .int .u64 0] 23)) := hS.alloc hS.size _
            rw [← hBe]
            have hLT5 : B5 < (U3.alloc (.cells #[.int .u64 0, .int .u64 0, .int .u64 0, .int .u64 0] 23)).heap.size := (Array.getElem?_eq_some_iff.1 hZ5).1
            generalize (U3.alloc (.cells #[.int .u64 0, .int .u64 0, .int .u64 0, .int .u64 0] 23)) = U4 at hZ5  hSA hLT5  ⊢
            refine hK.out _ _ hSA (fun hS => ?_)
            clear hK K hSA hBe
            obtain ⟨a0, a1, a2, a3⟩ := cells4 hZ5
            have fa : ∀ o, U4.frozen? ⟨B5, o, none⟩ = false := fun o => blk_free hZ5
            refine wpAnyH_ready (rs := [6]) (by kernel_rfl) (by simp) (AllReadyH.cons rfl (fun K hK => ?_) AllReadyH.nil)
            go_simp
            have g5 := stored4 (z0 := .int .u64 q0) (z1 := .int .u64 q1) (z2 := .int .u64 q2) (z3 := .int .u64 q3) hZ5
            have hSB := below_stored4 (b := B5) (z0 := .int .u64 q0) (z1 := .int .u64 q1) (z2 := .int .u64 q2) (z3 := .int .u64 q3) hS hL5
            generalize ((((U4.setCell ⟨B5, 0, none⟩ (.int .u64 q0)).setCell ⟨B5, 1, none⟩ (.int .u64 q1)).setCell ⟨B5, 2, none⟩ (.int .u64 q2)).setCell ⟨B5, 3, none⟩ (.int .u64 q3)) = U4x at g5 hSB  ⊢
            refine hK.out _ _ hSB (fun hS => wpAnyH_done (by kernel_rfl) ?_ _)
            clear hK K
            go_wp2_with fail
            go_meet
            exact ⟨B5, rfl, g5, hL5, hSB⟩
        · go_simp
          obtain ⟨B5, hBe⟩ : ∃ B5, B5 = U2.heap.size := ⟨_, rfl⟩
          have hZ5 : (U2.alloc (.cells #[.int .u64 0, .int .u64 0, .int .u64 0, .int .u64 0] 23)).heap[B5]? = some (.cells #[.int .u64 0, .int .u64 0, .int .u64 0, .int .u64 0] 23 (0, 0)) := by rw [hBe]; exact heap_new _ _
          have hL5 : W0.heap.size ≤ B5 := by rw [hBe]; exact hS.size
          have hSA : Below W0.heap.size W0 (U2.alloc (.cells #[.int .u64 0, .int .u64 0, .int .u64 0, .int .u64 0] 23)) := hS.alloc hS.size _
          rw [← hBe]
          have hLT5 : B5 < (U2.alloc (.cells #[.int .u64 0, .int .u64 0, .int .u64 0, .int .u64 0] 23)).heap.size := (Array.getElem?_eq_some_iff.1 hZ5).1
          generalize (U2.alloc (.cells #[.int .u64 0, .int .u64 0, .int .u64 0, .int .u64 0] 23)) = U5 at hZ5  hSA hLT5  ⊢
          refine hK.out _ _ hSA (fun hS => ?_)
          clear hK K hSA hBe
          refine wpAnyH_ready (rs := [4]) (by kernel_rfl) (by simp) ?_
          refine AllReadyH.cons rfl (fun K hK => ?_) AllReadyH.nil
          · go_simp
            refine (C3.out _).mono ?_
            rintro e U6 ⟨rfl, hbc⟩
            refine hK.out _ _ (hS.trans (hbc.mono hS.size)) (fun hS => ?_)
            replace hZ5 := (hbc.block B5 (Array.getElem?_eq_some_iff.1 hZ5).1).trans hZ5
            replace hLT5 := (Array.getElem?_eq_some_iff.1 hZ5).1
            clear hK K hbc
            obtain ⟨a0, a1, a2, a3⟩ := cells4 hZ5
            have fa : ∀ o, U6.frozen? ⟨B5, o, none⟩ = false := fun o => blk_free hZ5
            refine wpAnyH_ready (rs := [6]) (by kernel_rfl) (by simp) (AllReadyH.cons rfl (fun K hK => ?_) AllReadyH.nil)
            go_simp
            have g5 := stored4 (z0 := .int .u64 q0) (z1 := .int .u64 q1) (z2 := .int .u64 q2) (z3 := .int .u64 q3) hZ5
            have hSB := below_stored4 (b := B5) (z0 := .int .u64 q0) (z1 := .int .u64 q1) (z2 := .int .u64 q2) (z3 := .int .u64 q3) hS hL5
            generalize ((((U6.setCell ⟨B5, 0, none⟩ (.int .u64 q0)).setCell ⟨B5, 1, none⟩ (.int .u64 q1)).setCell ⟨B5, 2, none⟩ (.int .u64 q2)).setCell ⟨B5, 3, none⟩ (.int .u64 q3)) = U6x at g5 hSB  ⊢
            refine hK.out _ _ hSB (fun hS => wpAnyH_done (by kernel_rfl) ?_ _)
            clear hK K
            go_wp2_with fail
            go_meet
            exact ⟨B5, rfl, g5, hL5, hSB⟩
      · go_simp
        obtain ⟨B5, hBe⟩ : ∃ B5, B5 = U1.heap.size := ⟨_, rfl⟩
        have hZ5 : (U1.alloc (.cells #[.int .u64 0, .int .u64 0, .int .u64 0, .int .u64 0] 23)).heap[B5]? = some (.cells #[.int .u64 0, .int .u64 0, .int .u64 0, .int .u64 0] 23 (0, 0)) := by rw [hBe]; exact heap_new _ _
        have hL5 : W0.heap.size ≤ B5 := by rw [hBe]; exact hS.size
        have hSA : Below W0.heap.size W0 (U1.alloc (.cells #[.int .u64 0, .int .u64 0, .int .u64 0, .int .u64 0] 23)) := hS.alloc hS.size _
        rw [← hBe]
        have hLT5 : B5 < (U1.alloc (.cells #[.int .u64 0, .int .u64 0, .int .u64 0, .int .u64 0] 23)).heap.size := (Array.getElem?_eq_some_iff.1 hZ5).1
        generalize (U1.alloc (.cells #[.int .u64 0, .int .u64 0, .int .u64 0, .int .u64 0] 23)) = U7 at hZ5  hSA hLT5  ⊢
        refine hK.out _ _ hSA (fun hS => ?_)
        clear hK K hSA hBe
        refine wpAnyH_ready (rs := [3]) (by kernel_rfl) (by simp) ?_
        refine AllReadyH.cons rfl (fun K hK => ?_) AllReadyH.nil
        · go_simp
          refine (C2.out _).mono ?_
          rintro e U8 ⟨rfl, hbc⟩
          refine hK.out _ _ (hS.trans (hbc.mono hS.size)) (fun hS => ?_)
          replace hZ5 := (hbc.block B5 (Array.getElem?_eq_some_iff.1 hZ5).1).trans hZ5
          replace hLT5 := (Array.getElem?_eq_some_iff.1 hZ5).1
          clear hK K hbc
          refine wpAnyH_ready (rs := [4]) (by kernel_rfl) (by simp) ?_
          refine AllReadyH.cons rfl (fun K hK => ?_) AllReadyH.nil
          · go_simp
            refine (C3.out _).mono ?_
            rintro e U9 ⟨rfl, hbc⟩
            refine hK.out _ _ (hS.trans (hbc.mono hS.size)) (fun hS => ?_)
            replace hZ5 := (hbc.block B5 (Array.getElem?_eq_some_iff.1 hZ5).1).trans hZ5
            replace hLT5 := (Array.getElem?_eq_some_iff.1 hZ5).1
            clear hK K hbc
            obtain ⟨a0, a1, a2, a3⟩ := cells4 hZ5
            have fa : ∀ o, U9.frozen? ⟨B5, o, none⟩ = false := fun o => blk_free hZ5
            refine wpAnyH_ready (rs := [6]) (by kernel_rfl) (by simp) (AllReadyH.cons rfl (fun K hK => ?_) AllReadyH.nil)
            go_simp
            have g5 := stored4 (z0 := .int .u64 q0) (z1 := .int .u64 q1) (z2 := .int .u64 q2) (z3 := .int .u64 q3) hZ5
            have hSB := below_stored4 (b := B5) (z0 := .int .u64 q0) (z1 := .int .u64 q1) (z2 := .int .u64 q2) (z3 := .int .u64 q3) hS hL5
            generalize ((((U9.setCell ⟨B5, 0, none⟩ (.int .u64 q0)).setCell ⟨B5, 1, none⟩ (.int .u64 q1)).setCell ⟨B5, 2, none⟩ (.int .u64 q2)).setCell ⟨B5, 3, none⟩ (.int .u64 q3)) = U9x at g5 hSB  ⊢
            refine hK.out _ _ hSB (fun hS => wpAnyH_done (by kernel_rfl) ?_ _)
            clear hK K
            go_wp2_with fail
            go_meet
            exact ⟨B5, rfl, g5, hL5, hSB⟩
    · go_simp
      obtain ⟨B5, hBe⟩ : ∃ B5, B5 = W0.heap.size := ⟨_, rfl⟩
      have hZ5 : (W0.alloc (.cells #[.int .u64 0, .int .u64 0, .int .u64 0, .int .u64 0] 23)).drew.heap[B5]? = some (.cells #[.int .u64 0, .int .u64 0, .int .u64 0, .int .u64 0] 23 (0, 0)) := by rw [hBe]; exact heap_new _ _
      have hL5 : W0.heap.size ≤ B5 := by rw [hBe]; exact Nat.le_refl _
      have hSA : Below W0.heap.size W0 (W0.alloc (.cells #[.int .u64 0, .int .u64 0, .int .u64 0, .int .u64 0] 23)).drew := ((Below.refl _ W0).alloc (Nat.le_refl _) _).drew
      rw [← hBe]
      have hLT5 : B5 < (W0.alloc (.cells #[.int .u64 0, .int .u64 0, .int .u64 0, .int .u64 0] 23)).drew.heap.size := (Array.getElem?_eq_some_iff.1 hZ5).1
      generalize (W0.alloc (.cells #[.int .u64 0, .int .u64 0, .int .u64 0, .int .u64 0] 23)).drew = U10 at hZ5  hSA hLT5  ⊢
      refine hK.out _ _ hSA (fun hS => ?_)
      clear hK K hSA hBe
      refine wpAnyH_ready (rs := [1]) (by kernel_rfl) (by simp) ?_
      refine AllReadyH.cons rfl (fun K hK => ?_) AllReadyH.nil
      · go_simp
        refine (C1.out _).mono ?_
        rintro e U11 ⟨rfl, hbc⟩
        refine hK.out _ _ (hS.trans (hbc.mono hS.size)) (fun hS => ?_)
        replace hZ5 := (hbc.block B5 (Array.getElem?_eq_some_iff.1 hZ5).1).trans hZ5
        replace hLT5 := (Array.getElem?_eq_some_iff.1 hZ5).1
        clear hK K hbc
        refine wpAnyH_ready (rs := [3]) (by kernel_rfl) (by simp) ?_
        refine AllReadyH.cons rfl (fun K hK => ?_) AllReadyH.nil
        · go_simp
          refine (C2.out _).mono ?_
          rintro e U12 ⟨rfl, hbc⟩
          refine hK.out _ _ (hS.trans (hbc.mono hS.size)) (fun hS => ?_)
          replace hZ5 := (hbc.block B5 (Array.getElem?_eq_some_iff.1 hZ5).1).trans hZ5
          replace hLT5 := (Array.getElem?_eq_some_iff.1 hZ5).1
          clear hK K hbc
          refine wpAnyH_ready (rs := [4]) (by kernel_rfl) (by simp) ?_
          refine AllReadyH.cons rfl (fun K hK => ?_) AllReadyH.nil
          · go_simp
            refine (C3.out _).mono ?_
            rintro e U13 ⟨rfl, hbc⟩
            refine hK.out _ _ (hS.trans (hbc.mono hS.size)) (fun hS => ?_)
            replace hZ5 := (hbc.block B5 (Array.getElem?_eq_some_iff.1 hZ5).1).trans hZ5
            replace hLT5 := (Array.getElem?_eq_some_iff.1 hZ5).1
            clear hK K hbc
            obtain ⟨a0, a1, a2, a3⟩ := cells4 hZ5
            have fa : ∀ o, U13.frozen? ⟨B5, o, none⟩ = false := fun o => blk_free hZ5
            refine wpAnyH_ready (rs := [6]) (by kernel_rfl) (by simp) (AllReadyH.cons rfl (fun K hK => ?_) AllReadyH.nil)
            go_simp
            have g5 := stored4 (z0 := .int .u64 q0) (z1 := .int .u64 q1) (z2 := .int .u64 q2) (z3 := .int .u64 q3) hZ5
            have hSB := below_stored4 (b := B5) (z0 := .int .u64 q0) (z1 := .int .u64 q1) (z2 := .int .u64 q2) (z3 := .int .u64 q3) hS hL5
            generalize ((((U13.setCell ⟨B5, 0, none⟩ (.int .u64 q0)).setCell ⟨B5, 1, none⟩ (.int .u64 q1)).setCell ⟨B5, 2, none⟩ (.int .u64 q2)).setCell ⟨B5, 3, none⟩ (.int .u64 q3)) = U13x at g5 hSB  ⊢
            refine hK.out _ _ hSB (fun hS => wpAnyH_done (by kernel_rfl) ?_ _)
            clear hK K
            go_wp2_with fail
            go_meet
            exact ⟨B5, rfl, g5, hL5, hSB⟩
  case rest =>
    obtain ⟨B, rfl, gq, hlB, hbx⟩ := hcut
    rename World => wA
    have HLR : Hid (w.heap.size + 1 + 1 < B) := Nat.lt_of_lt_of_le (lt_of_block HBr.out) hlB
    replace HBx : Hid (wA.heap[w.heap.size]? = some (.cells #[.int .u64 x0, .int .u64 x1, .int .u64 x2, .int .u64 x3] 23 (0, 0))) := (hbx.block _ (Array.getElem?_eq_some_iff.1 HBx.out).1).trans HBx.out
    replace HBy : Hid (wA.heap[w.heap.size + 1]? = some (.cells #[.int .u64 y0, .int .u64 y1, .int .u64 y2, .int .u64 y3] 23 (0, 0))) := (hbx.block _ (Array.getElem?_eq_some_iff.1 HBy.out).1).trans HBy.out
    replace HBr : Hid (wA.heap[w.heap.size + 1 + 1]? = some (.cells #[.int .u64 0, .int .u64 0, .int .u64 0, .int .u64 0] 23 (0, 0))) := (hbx.block _ (Array.getElem?_eq_some_iff.1 HBr.out).1).trans HBr.out
    replace HBW : Hid (Below w.heap.size w wA) := HBW.out.trans (hbx.mono HBW.out.size)
    have HBq := hideP gq
    clear gq hbx hlB cx0 cx1 cx2 cx3 cy0 cy1 cy2 cy3 hlx hly
    obtain ⟨cx0, cx1, cx2, cx3⟩ := cells4 HBx.out
    have hlx := (Array.getElem?_eq_some_iff.1 HBx.out).1
    go_wp2_with fail
    refine (C4.out _).mono ?_
    rintro e V1 ⟨rfl, hb⟩
    replace HBx : Hid (V1.heap[w.heap.size]? = some (.cells #[.int .u64 x0, .int .u64 x1, .int .u64 x2, .int .u64 x3] 23 (0, 0))) := (hb.block _ (Array.getElem?_eq_some_iff.1 HBx.out).1).trans HBx.out
    replace HBy : Hid (V1.heap[w.heap.size + 1]? = some (.cells #[.int .u64 y0, .int .u64 y1, .int .u64 y2, .int .u64 y3] 23 (0, 0))) := (hb.block _ (Array.getElem?_eq_some_iff.1 HBy.out).1).trans HBy.out
    replace HBr : Hid (V1.heap[w.heap.size + 1 + 1]? = some (.cells #[.int .u64 0, .int .u64 0, .int .u64 0, .int .u64 0] 23 (0, 0))) := (hb.block _ (Array.getElem?_eq_some_iff.1 HBr.out).1).trans HBr.out
    replace HBq : Hid (V1.heap[B]? = some (.cells #[.int .u64 q0, .int .u64 q1, .int .u64 q2, .int .u64 q3] 23 (0, 0))) := (hb.block _ (Array.getElem?_eq_some_iff.1 HBq.out).1).trans HBq.out
    replace HBW : Hid (Below w.heap.size w V1) := HBW.out.trans (hb.mono HBW.out.size)
    clear hb
    clear cx0 cx1 cx2 cx3 hlx
    cases nx
    · obtain ⟨cq0, cq1, cq2, cq3⟩ := cells4 HBq.out
      obtain ⟨g0, g1, g2, g3⟩ := cells4 HBr.out
      have fr : ∀ o, V1.frozen? ⟨w.heap.size + 1 + 1, o, none⟩ = false := fun o => blk_free HBr.out
      have hne : ¬ (B = w.heap.size + 1 + 1) := by have := HLR.out; omega
      have hne2 : ¬ (w.heap.size + 1 + 1 = B) := by have := HLR.out; omega
      go_wp2
      refine bodyPost_ret (v := .agg #[.int .u64 q0, .int .u64 q1, .int .u64 q2, .int .u64 q3]) (by simp [results, Try.results40, go_sem, g0, g1, g2, g3, World.cell?_setCell_same]) rfl ⟨rfl, ?_⟩
      repeat first | exact HBW.out | apply Below.drew | (refine Below.setCell ?_ (by simp <;> omega) _)
    · obtain ⟨cq0, cq1, cq2, cq3⟩ := cells4 HBq.out
      go_wp2_with fail
      refine (C6.out _).mono ?_
      rintro e V3 ⟨rfl, hb⟩
      obtain ⟨_, g0, g1, g2, g3, f0, f1, f2, f3⟩ := kept4 hb HBr.out
      replace HBW : Hid (Below w.heap.size w V3) := HBW.out.trans (hb.mono HBW.out.size)
      clear hb cq0 cq1 cq2 cq3
      go_wp2
      refine bodyPost_ret (v := .agg #[.int .u64 z0, .int .u64 z1, .int .u64 z2, .int .u64 z3]) (by simp [results, Try.results40, go_sem, g0, g1, g2, g3, World.cell?_setCell_same]) rfl ⟨rfl, ?_⟩
      repeat first | exact HBW.out | apply Below.drew | (refine Below.setCell ?_ (by simp <;> omega) _)

end Go.Proofs.Ytpnijncoldihfaa
