/-
  Signed quotients of a number below 0 by a small one.
-/
import Derived.Deep.DeepCutAuto
import Derived.Test.YtpnijncoldihfaaTextsC11
namespace Go.Proofs.Ytpnijncoldihfaa
open Go.RowKit Go.Shelf

set_option maxHeartbeats 1000000 in
set_option maxRecDepth 100000 in
theorem sdiv_neg (X Y : Nat) (hx : negB X = true) (hy : negB Y = false) (h0 : 0 < Y) (hY : Y < 18446744073709551616) (w : World) :
    Calls Try.prog 37 #[wv X, wv Y] w fun e w' => e = .returned (wv (negN (negN X % M256 / Y))) ∧ Below w.heap.size w w' := by
  have h1 := fun W => size_neg X hx W
  have h2 := fun W => size_pos Y hy W
  have h3 := fun W => div_small (negN X) Y h0 hY W
  have h4 := fun W => isNegative_any X W
  have h5 := fun W => isNegative_any Y W
  have h6 := fun W => negate_any (negN X % M256 / Y) W
  obtain ⟨x0, x1, x2, x3, hX⟩ := wv_form X
  obtain ⟨y0, y1, y2, y3, hYf⟩ := wv_form Y
  obtain ⟨s0, s1, s2, s3, hS⟩ := wv_form (negN X)
  obtain ⟨q0, q1, q2, q3, hQ⟩ := wv_form (negN X % M256 / Y)
  obtain ⟨z0, z1, z2, z3, hZ⟩ := wv_form (negN (negN X % M256 / Y))
  simp only [hX, hYf, hS, hQ, hZ, hx, hy] at h1 h2 h3 h4 h5 h6 ⊢
  have H1 := hideP h1
  have H2 := hideP h2
  have H3 := hideP h3
  have H4 := hideP h4
  have H5 := hideP h5
  have H6 := hideP h6
  clear hX hYf hS hQ hZ hx hy h0 hY h1 h2 h3 h4 h5 h6
  go_enter Try.func37, Try.ntmps37
  go_wp2_with fail
  obtain ⟨W0, HW0⟩ : ∃ W0, Hid (W0 = ((w.alloc (.cells #[.int .u64 x0, .int .u64 x1, .int .u64 x2, .int .u64 x3] 24)).alloc (.cells #[.int .u64 y0, .int .u64 y1, .int .u64 y2, .int .u64 y3] 24)).alloc (.cells #[.int .u64 0, .int .u64 0, .int .u64 0, .int .u64 0] 24)) := ⟨_, rfl⟩
  rw [← HW0.out]
  have hxb : W0.heap[w.heap.size]? = some (.cells #[.int .u64 x0, .int .u64 x1, .int .u64 x2, .int .u64 x3] 24 (0, 0)) := by
    rw [HW0.out, heap_old _ _ (by simp <;> omega), heap_old _ _ (by simp)]
    exact heap_new _ _
  have hyb : W0.heap[w.heap.size + 1]? = some (.cells #[.int .u64 y0, .int .u64 y1, .int .u64 y2, .int .u64 y3] 24 (0, 0)) := by
    rw [HW0.out, heap_old _ _ (by simp)]
    exact heap_new1 _ _ _
  have hrb : W0.heap[w.heap.size + 1 + 1]? = some (.cells #[.int .u64 0, .int .u64 0, .int .u64 0, .int .u64 0] 24 (0, 0)) := by
    rw [HW0.out]
    exact heap_new2 _ _ _ _
  have hb0 : Below w.heap.size w W0 := by
    rw [HW0.out]
    exact ((((Below.refl _ w).alloc (Nat.le_refl _) _).alloc (by simp) _).alloc (by simp <;> omega) _)
  have HXB := hideP hxb
  have HYB := hideP hyb
  have HRB := hideP hrb
  have HB0 := hideP hb0
  clear hxb hyb hrb hb0 HW0
  go_cut [5] (fun p wx => ∃ B : Nat, p = .pointer (some ⟨B, 0, none⟩) ∧ wx.heap[B]? = some (.cells #[.int .u64 q0, .int .u64 q1, .int .u64 q2, .int .u64 q3] 24 (0, 0)) ∧ W0.heap.size ≤ B ∧ Below W0.heap.size W0 wx)
  case first =>
    obtain ⟨cx0, cx1, cx2, cx3⟩ := cells4 HXB.out
    obtain ⟨cy0, cy1, cy2, cy3⟩ := cells4 HYB.out
    have hlx := (Array.getElem?_eq_some_iff.1 HXB.out).1
    have hly := (Array.getElem?_eq_some_iff.1 HYB.out).1
    refine wp_region_heldS (S := fun V => Below W0.heap.size W0 V) (by kernel_rfl) (Below.refl _ _).drew (fun hS => ?_)
    refine wpAnyH_take (i := 0) (v := ?_) rfl (by kernel_rfl) (by kernel_rfl) (by kernel_rfl) (fun _ _ _ h => h) (Or.inl ⟨by rfl, ?_⟩) hS ?_
    rotate_left
    · intro V hV
      have k0 := (hV.cell (p := ⟨w.heap.size, 0, none⟩) hlx).trans cx0
      have k1 := (hV.cell (p := ⟨w.heap.size, 1, none⟩) hlx).trans cx1
      have k2 := (hV.cell (p := ⟨w.heap.size, 2, none⟩) hlx).trans cx2
      have k3 := (hV.cell (p := ⟨w.heap.size, 3, none⟩) hlx).trans cx3
      go_simp
      (try with_reducible rfl)
    simp only [Act.put, List.setIfInBounds_toArray]
    refine wpAnyH_take (i := 2) (v := ?_) rfl (by kernel_rfl) (by kernel_rfl) (by kernel_rfl) (fun _ _ _ h => h) (Or.inl ⟨by rfl, ?_⟩) hS ?_
    rotate_left
    · intro V hV
      have k0 := (hV.cell (p := ⟨w.heap.size + 1, 0, none⟩) hly).trans cy0
      have k1 := (hV.cell (p := ⟨w.heap.size + 1, 1, none⟩) hly).trans cy1
      have k2 := (hV.cell (p := ⟨w.heap.size + 1, 2, none⟩) hly).trans cy2
      have k3 := (hV.cell (p := ⟨w.heap.size + 1, 3, none⟩) hly).trans cy3
      go_simp
      (try with_reducible rfl)
    simp only [Act.put]
    refine wpAnyH_ready (rs := [1, 5]) (by kernel_rfl) (by simp) ?_
    refine AllReadyH.cons rfl (fun K hK => ?_) (AllReadyH.cons rfl (fun K hK => ?_) AllReadyH.nil)
    · go_simp
      refine (H1.out _).mono ?_
      rintro e U1 ⟨rfl, hbc⟩
      refine hK.out _ _ (hS.trans (hbc.mono hS.size)) (fun hS => ?_)
      clear hK K hbc
      refine wpAnyH_ready (rs := [3, 5]) (by kernel_rfl) (by simp) ?_
      refine AllReadyH.cons rfl (fun K hK => ?_) (AllReadyH.cons rfl (fun K hK => ?_) AllReadyH.nil)
      · go_simp
        refine (H2.out _).mono ?_
        rintro e U2 ⟨rfl, hbc⟩
        refine hK.out _ _ (hS.trans (hbc.mono hS.size)) (fun hS => ?_)
        clear hK K hbc
        refine wpAnyH_ready (rs := [4, 5]) (by kernel_rfl) (by simp) ?_
        refine AllReadyH.cons rfl (fun K hK => ?_) (AllReadyH.cons rfl (fun K hK => ?_) AllReadyH.nil)
        · go_simp
          refine (H3.out _).mono ?_
          rintro e U3 ⟨rfl, hbc⟩
          refine hK.out _ _ (hS.trans (hbc.mono hS.size)) (fun hS => ?_)
          clear hK K hbc
          refine wpAnyH_ready (rs := [5]) (by kernel_rfl) (by simp) ?_
          refine AllReadyH.cons rfl (fun K hK => ?_) AllReadyH.nil
          · go_simp
            obtain ⟨B5, hBe⟩ : ∃ B5, B5 = U3.heap.size := ⟨_, rfl⟩
            have hZ5 : (U3.alloc (.cells #[.int .u64 0, .int .u64 0, .int .u64 0, .int .u64 0] 24)).heap[B5]? = some (.cells #[.int .u64 0, .int .u64 0, .int .u64 0, .int .u64 0] 24 (0, 0)) := by rw [hBe]; exact heap_new _ _
            have hL5 : W0.heap.size ≤ B5 := by rw [hBe]; exact hS.size
            have hSA : Below W0.heap.size W0 (U3.alloc (.cells #[.int .u64 0, .int .u64 0, .int .u64 0, .int .u64 0] 24)) := hS.alloc hS.size _
            rw [← hBe]
            have hLT5 : B5 < (U3.alloc (.cells #[.int .u64 0, .int .u64 0, .int .u64 0, .int .u64 0] 24)).heap.size := (Array.getElem?_eq_some_iff.1 hZ5).1
            generalize (U3.alloc (.cells #[.int .u64 0, .int .u64 0, .int .u64 0, .int .u64 0] 24)) = U4 at hZ5  hSA hLT5  ⊢
            refine hK.out _ _ hSA (fun hS => ?_)
            clear hK K hSA hBe
            obtain ⟨a0, a1, a2, a3⟩ := cells4 hZ5
            have fa : ∀ o, U4.frozen? ⟨B5, o, none⟩ = false := fun o => blk_free hZ5
            refine wpAnyH_ready (rs := [6]) (by kernel_rfl) (by simp) (AllReadyH.cons rfl (fun K hK => ?_) AllReadyH.nil)
            go_simp
            have g5 := stored4 (z0 := .int .u64 q0) (z1 := .int .u64 q1) (z2 := .int .u64 q2) (z3 := .int .u64 q3) hZ5
            have hSB := below_stored4 (b := B5) (z0 := .int .u64 q0) (z1 := .int .u64 q1) (z2 := .int .u64 q2) (z3 := .int .u64 q3) hS hL5
            generalize ((((U4.setCell ⟨B5, 0, none⟩ (.int .u64 q0)).setCell ⟨B5, 1, none⟩ (.int .u64 q1)).setCell ⟨B5, 2, none⟩ (.int .u64 q2)).setCell ⟨B5, 3, none⟩ (.int .u64 q3)) = U4x at g5 hSB  ⊢
            refine hK.out _ _ hSB (fun hS => wpAnyH_done (by kernel_rfl) ?_ _)
            clear hK K
            go_wp2_with fail
            go_meet
            exact ⟨B5, rfl, g5, hL5, hSB⟩
        · go_simp
          obtain ⟨B5, hBe⟩ : ∃ B5, B5 = U2.heap.size := ⟨_, rfl⟩
          have hZ5 : (U2.alloc (.cells #[.int .u64 0, .int .u64 0, .int .u64 0, .int .u64 0] 24)).heap[B5]? = some (.cells #[.int .u64 0, .int .u64 0, .int .u64 0, .int .u64 0] 24 (0, 0)) := by rw [hBe]; exact heap_new _ _
          have hL5 : W0.heap.size ≤ B5 := by rw [hBe]; exact hS.size
          have hSA : Below W0.heap.size W0 (U2.alloc (.cells #[.int .u64 0, .int .u64 0, .int .u64 0, .int .u64 0] 24)) := hS.alloc hS.size _
          rw [← hBe]
          have hLT5 : B5 < (U2.alloc (.cells #[.int .u64 0, .int .u64 0, .int .u64 0, .int .u64 0] 24)).heap.size := (Array.getElem?_eq_some_iff.1 hZ5).1
          generalize (U2.alloc (.cells #[.int .u64 0, .int .u64 0, .int .u64 0, .int .u64 0] 24)) = U5 at hZ5  hSA hLT5  ⊢
          refine hK.out _ _ hSA (fun hS => ?_)
          clear hK K hSA hBe
          refine wpAnyH_ready (rs := [4]) (by kernel_rfl) (by simp) ?_
          refine AllReadyH.cons rfl (fun K hK => ?_) AllReadyH.nil
          · go_simp
            refine (H3.out _).mono ?_
            rintro e U6 ⟨rfl, hbc⟩
            refine hK.out _ _ (hS.trans (hbc.mono hS.size)) (fun hS => ?_)
            replace hZ5 := (hbc.block B5 (Array.getElem?_eq_some_iff.1 hZ5).1).trans hZ5
            replace hLT5 := (Array.getElem?_eq_some_iff.1 hZ5).1
            clear hK K hbc
            obtain ⟨a0, a1, a2, a3⟩ := cells4 hZ5
            have fa : ∀ o, U6.frozen? ⟨B5, o, none⟩ = false := fun o => blk_free hZ5
            refine wpAnyH_ready (rs := [6]) (by kernel_rfl) (by simp) (AllReadyH.cons rfl (fun K hK => ?_) AllReadyH.nil)
            go_simp
            have g5 := stored4 (z0 := .int .u64 q0) (z1 := .int .u64 q1) (z2 := .int .u64 q2) (z3 := .int .u64 q3) hZ5
            have hSB := below_stored4 (b := B5) (z0 := .int .u64 q0) (z1 := .int .u64 q1) (z2 := .int .u64 q2) (z3 := .int .u64 q3) hS hL5
            generalize ((((U6.setCell ⟨B5, 0, none⟩ (.int .u64 q0)).setCell ⟨B5, 1, none⟩ (.int .u64 q1)).setCell ⟨B5, 2, none⟩ (.int .u64 q2)).setCell ⟨B5, 3, none⟩ (.int .u64 q3)) = U6x at g5 hSB  ⊢
            refine hK.out _ _ hSB (fun hS => wpAnyH_done (by kernel_rfl) ?_ _)
            clear hK K
            go_wp2_with fail
            go_meet
            exact ⟨B5, rfl, g5, hL5, hSB⟩
      · go_simp
        obtain ⟨B5, hBe⟩ : ∃ B5, B5 = U1.heap.size := ⟨_, rfl⟩
        have hZ5 : (U1.alloc (.cells #[.int .u64 0, .int .u64 0, .int .u64 0, .int .u64 0] 24)).heap[B5]? = some (.cells #[.int .u64 0, .int .u64 0, .int .u64 0, .int .u64 0] 24 (0, 0)) := by rw [hBe]; exact heap_new _ _
        have hL5 : W0.heap.size ≤ B5 := by rw [hBe]; exact hS.size
        have hSA : Below W0.heap.size W0 (U1.alloc (.cells #[.int .u64 0, .int .u64 0, .int .u64 0, .int .u64 0] 24)) := hS.alloc hS.size _
        rw [← hBe]
        have hLT5 : B5 < (U1.alloc (.cells #[.int .u64 0, .int .u64 0, .int .u64 0, .int .u64 0] 24)).heap.size := (Array.getElem?_eq_some_iff.1 hZ5).1
        generalize (U1.alloc (.cells #[.int .u64 0, .int .u64 0, .int .u64 0, .int .u64 0] 24)) = U7 at hZ5  hSA hLT5  ⊢
        refine hK.out _ _ hSA (fun hS => ?_)
        clear hK K hSA hBe
        refine wpAnyH_ready (rs := [3]) (by kernel_rfl) (by simp) ?_
        refine AllReadyH.cons rfl (fun K hK => ?_) AllReadyH.nil
        · go_simp
          refine (H2.out _).mono ?_
          rintro e U8 ⟨rfl, hbc⟩
          refine hK.out _ _ (hS.trans (hbc.mono hS.size)) (fun hS => ?_)
          replace hZ5 := (hbc.block B5 (Array.getElem?_eq_some_iff.1 hZ5).1).trans hZ5
          replace hLT5 := (Array.getElem?_eq_some_iff.1 hZ5).1
          clear hK K hbc
          refine wpAnyH_ready (rs := [4]) (by kernel_rfl) (by simp) ?_
          refine AllReadyH.cons rfl (fun K hK => ?_) AllReadyH.nil
          · go_simp
            refine (H3.out _).mono ?_
            rintro e U9 ⟨rfl, hbc⟩
            refine hK.out _ _ (hS.trans (hbc.mono hS.size)) (fun hS => ?_)
            replace hZ5 := (hbc.block B5 (Array.getElem?_eq_some_iff.1 hZ5).1).trans hZ5
            replace hLT5 := (Array.getElem?_eq_some_iff.1 hZ5).1
            clear hK K hbc
            obtain ⟨a0, a1, a2, a3⟩ := cells4 hZ5
            have fa : ∀ o, U9.frozen? ⟨B5, o, none⟩ = false := fun o => blk_free hZ5
            refine wpAnyH_ready (rs := [6]) (by kernel_rfl) (by simp) (AllReadyH.cons rfl (fun K hK => ?_) AllReadyH.nil)
            go_simp
            have g5 := stored4 (z0 := .int .u64 q0) (z1 := .int .u64 q1) (z2 := .int .u64 q2) (z3 := .int .u64 q3) hZ5
            have hSB := below_stored4 (b := B5) (z0 := .int .u64 q0) (z1 := .int .u64 q1) (z2 := .int .u64 q2) (z3 := .int .u64 q3) hS hL5
            generalize ((((U9.setCell ⟨B5, 0, none⟩ (.int .u64 q0)).setCell ⟨B5, 1, none⟩ (.int .u64 q1)).setCell ⟨B5, 2, none⟩ (.int .u64 q2)).setCell ⟨B5, 3, none⟩ (.int .u64 q3)) = U9x at g5 hSB  ⊢
            refine hK.out _ _ hSB (fun hS => wpAnyH_done (by kernel_rfl) ?_ _)
            clear hK K
            go_wp2_with fail
            go_meet
            exact ⟨B5, rfl, g5, hL5, hSB⟩
    · go_simp
      obtain ⟨B5, hBe⟩ : ∃ B5, B5 = W0.heap.size := ⟨_, rfl⟩
      have hZ5 : (W0.alloc (.cells #[.int .u64 0, .int .u64 0, .int .u64 0, .int .u64 0] 24)).drew.heap[B5]? = some (.cells #[.int .u64 0, .int .u64 0, .int .u64 0, .int .u64 0] 24 (0, 0)) := by rw [hBe]; exact heap_new _ _
      have hL5 : W0.heap.size ≤ B5 := by rw [hBe]; exact Nat.le_refl _
      have hSA : Below W0.heap.size W0 (W0.alloc (.cells #[.int .u64 0, .int .u64 0, .int .u64 0, .int .u64 0] 24)).drew := ((Below.refl _ W0).alloc (Nat.le_refl _) _).drew
      rw [← hBe]
      have hLT5 : B5 < (W0.alloc (.cells #[.int .u64 0, .int .u64 0, .int .u64 0, .int .u64 0] 24)).drew.heap.size := (Array.getElem?_eq_some_iff.1 hZ5).1
      generalize (W0.alloc (.cells #[.int .u64 0, .int .u64 0, .int .u64 0, .int .u64 0] 24)).drew = U10 at hZ5  hSA hLT5  ⊢
      refine hK.out _ _ hSA (fun hS => ?_)
      clear hK K hSA hBe
      refine wpAnyH_ready (rs := [1]) (by kernel_rfl) (by simp) ?_
      refine AllReadyH.cons rfl (fun K hK => ?_) AllReadyH.nil
      · go_simp
        refine (H1.out _).mono ?_
        rintro e U11 ⟨rfl, hbc⟩
        refine hK.out _ _ (hS.trans (hbc.mono hS.size)) (fun hS => ?_)
        replace hZ5 := (hbc.block B5 (Array.getElem?_eq_some_iff.1 hZ5).1).trans hZ5
        replace hLT5 := (Array.getElem?_eq_some_iff.1 hZ5).1
        clear hK K hbc
        refine wpAnyH_ready (rs := [3]) (by kernel_rfl) (by simp) ?_
        refine AllReadyH.cons rfl (fun K hK => ?_) AllReadyH.nil
        · go_simp
          refine (H2.out _).mono ?_
          rintro e U12 ⟨rfl, hbc⟩
          refine hK.out _ _ (hS.trans (hbc.mono hS.size)) (fun hS => ?_)
          replace hZ5 := (hbc.block B5 (Array.getElem?_eq_some_iff.1 hZ5).1).trans hZ5
          replace hLT5 := (Array.getElem?_eq_some_iff.1 hZ5).1
          clear hK K hbc
          refine wpAnyH_ready (rs := [4]) (by kernel_rfl) (by simp) ?_
          refine AllReadyH.cons rfl (fun K hK => ?_) AllReadyH.nil
          · go_simp
            refine (H3.out _).mono ?_
            rintro e U13 ⟨rfl, hbc⟩
            refine hK.out _ _ (hS.trans (hbc.mono hS.size)) (fun hS => ?_)
            replace hZ5 := (hbc.block B5 (Array.getElem?_eq_some_iff.1 hZ5).1).trans hZ5
            replace hLT5 := (Array.getElem?_eq_some_iff.1 hZ5).1
            clear hK K hbc
            obtain ⟨a0, a1, a2, a3⟩ := cells4 hZ5
            have fa : ∀ o, U13.frozen? ⟨B5, o, none⟩ = false := fun o => blk_free hZ5
            refine wpAnyH_ready (rs := [6]) (by kernel_rfl) (by simp) (AllReadyH.cons rfl (fun K hK => ?_) AllReadyH.nil)
            go_simp
            have g5 := stored4 (z0 := .int .u64 q0) (z1 := .int .u64 q1) (z2 := .int .u64 q2) (z3 := .int .u64 q3) hZ5
            have hSB := below_stored4 (b := B5) (z0 := .int .u64 q0) (z1 := .int .u64 q1) (z2 := .int .u64 q2) (z3 := .int .u64 q3) hS hL5
            generalize ((((U13.setCell ⟨B5, 0, none⟩ (.int .u64 q0)).setCell ⟨B5, 1, none⟩ (.int .u64 q1)).setCell ⟨B5, 2, none⟩ (.int .u64 q2)).setCell ⟨B5, 3, none⟩ (.int .u64 q3)) = U13x at g5 hSB  ⊢
            refine hK.out _ _ hSB (fun hS => wpAnyH_done (by kernel_rfl) ?_ _)
            clear hK K
            go_wp2_with fail
            go_meet
            exact ⟨B5, rfl, g5, hL5, hSB⟩
  case rest =>
    obtain ⟨B, rfl, hq, hlB, hbb⟩ := hcut
    obtain ⟨cx0, cx1, cx2, cx3⟩ := cells4 ((hbb.block w.heap.size (Array.getElem?_eq_some_iff.1 HXB.out).1).trans HXB.out)
    obtain ⟨cy0, cy1, cy2, cy3⟩ := cells4 ((hbb.block (w.heap.size + 1) (Array.getElem?_eq_some_iff.1 HYB.out).1).trans HYB.out)
    have HBB := hideP hbb
    have HQ := hideP hq
    clear hbb hq hlB
    go_wp2_with fail
    have hlx : w.heap.size < wc.heap.size := Nat.lt_of_lt_of_le (Array.getElem?_eq_some_iff.1 HXB.out).1 HBB.out.size
    have hly : w.heap.size + 1 < wc.heap.size := Nat.lt_of_lt_of_le (Array.getElem?_eq_some_iff.1 HYB.out).1 HBB.out.size
    refine wp_region_heldS (S := fun V => Below wc.heap.size wc V) (by kernel_rfl) (Below.refl _ _).drew (fun hS => ?_)
    refine wpAnyH_take (i := 0) (v := ?_) rfl (by kernel_rfl) (by kernel_rfl) (by kernel_rfl) (fun _ _ _ h => h) (Or.inl ⟨by rfl, ?_⟩) hS ?_
    rotate_left
    · intro V hV
      have k0 := (hV.cell (p := ⟨w.heap.size, 0, none⟩) hlx).trans cx0
      have k1 := (hV.cell (p := ⟨w.heap.size, 1, none⟩) hlx).trans cx1
      have k2 := (hV.cell (p := ⟨w.heap.size, 2, none⟩) hlx).trans cx2
      have k3 := (hV.cell (p := ⟨w.heap.size, 3, none⟩) hlx).trans cx3
      go_simp
      (try with_reducible rfl)
    simp only [Act.put, List.setIfInBounds_toArray]
    refine wpAnyH_take (i := 2) (v := ?_) rfl (by kernel_rfl) (by kernel_rfl) (by kernel_rfl) (fun _ _ _ h => h) (Or.inl ⟨by rfl, ?_⟩) hS ?_
    rotate_left
    · intro V hV
      have k0 := (hV.cell (p := ⟨w.heap.size + 1, 0, none⟩) hly).trans cy0
      have k1 := (hV.cell (p := ⟨w.heap.size + 1, 1, none⟩) hly).trans cy1
      have k2 := (hV.cell (p := ⟨w.heap.size + 1, 2, none⟩) hly).trans cy2
      have k3 := (hV.cell (p := ⟨w.heap.size + 1, 3, none⟩) hly).trans cy3
      go_simp
      (try with_reducible rfl)
    simp only [Act.put]
    refine wpAnyH_ready (rs := [1]) (by kernel_rfl) (by simp) (AllReadyH.cons rfl (fun K hK => ?_) AllReadyH.nil)
    go_simp
    refine (H4.out _).mono ?_
    rintro e w1 ⟨rfl, hbc⟩
    refine hK.out _ _ (hS.trans (hbc.mono hS.size)) (fun hS => ?_)
    clear hK K hbc
    refine wpAnyH_ready (rs := [3]) (by kernel_rfl) (by simp) (AllReadyH.cons rfl (fun K hK => ?_) AllReadyH.nil)
    go_simp
    refine (H5.out _).mono ?_
    rintro e w2 ⟨rfl, hbc⟩
    refine hK.out _ _ (hS.trans (hbc.mono hS.size)) (fun hS => ?_)
    clear hK K hbc
    refine wpAnyH_take (i := 4) (v := ?_) rfl (by kernel_rfl) (by kernel_rfl) (by kernel_rfl) (fun _ _ _ h => h) (Or.inl ⟨by rfl, ?_⟩) hS ?_
    rotate_left
    · intro V hV
      go_simp
      (try with_reducible rfl)
    simp only [Act.put]
    refine wpAnyH_done (by kernel_rfl) ?_ _
    have hB2 : w2.heap[B]? = _ := (hS.block B (Array.getElem?_eq_some_iff.1 HQ.out).1).trans HQ.out
    have hR2 := ((HBB.out.trans (hS.mono HBB.out.size)).block (w.heap.size + 1 + 1) (Array.getElem?_eq_some_iff.1 HRB.out).1).trans HRB.out
    have HB2 : Hid (Below w.heap.size w w2) := HB0.out.trans ((HBB.out.trans (hS.mono HBB.out.size)).mono HB0.out.size)
    obtain ⟨b0, b1, b2, b3⟩ := cells4 hB2
    have HR2 := hideP hR2
    clear hB2 hR2 hS cx0 cx1 cx2 cx3 cy0 cy1 cy2 cy3
    go_wp2_with fail
    refine (H6.out _).mono ?_
    rintro e w3 ⟨rfl, hb3⟩
    obtain ⟨_, k0, k1, k2, k3, h0, h1, h2, h3⟩ := kept4 hb3 HR2.out
    have HB3 : Hid (Below w.heap.size w w3) := HB2.out.trans (hb3.mono HB2.out.size)
    have hle := HB3.out.size
    clear hb3 b0 b1 b2 b3
    go_wp2
    refine bodyPost_ret (v := .agg #[.int .u64 z0, .int .u64 z1, .int .u64 z2, .int .u64 z3]) (by simp [results, Try.results37, go_sem, k0, k1, k2, k3, World.cell?_setCell_same]) rfl ⟨rfl, ?_⟩
    repeat first | exact HB3.out | apply Below.drew | (refine Below.alloc ?_ (by simp <;> omega) _) | (refine Below.setCell ?_ (by simp <;> omega) _)

end Go.Proofs.Ytpnijncoldihfaa
