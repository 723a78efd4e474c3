/-
  Products and sums modulo a number: the walk of the law.
-/
import Derived.Test.YtpnijncoldihfaaNext
import Derived.Test.YtpnijncoldihfaaDivMod
import Derived.Test.YtpnijncoldihfaaMulModA
import Derived.Test.YtpnijncoldihfaaCmp
namespace Go.Proofs.Ytpnijncoldihfaa
open Go.RowKit Go.Shelf

theorem restN_pos {A N : Nat} (h : 0 < N) : restN A N = A % N := by unfold restN; rw [if_neg (by omega)]
theorem restN_lt {A N : Nat} (h : 0 < N) (hN : N < M256) : restN A N % M256 = A % N := by
  rw [restN_pos h]; exact Nat.mod_eq_of_lt (Nat.lt_trans (Nat.mod_lt _ h) hN)

theorem mo_mul {X Y N : Nat} (h : 0 < N) (hN : N < M256) : restN (restN (X % M256) N % M256 * (restN (Y % M256) N % M256)) N = restN (X % M256 * (Y % M256)) N := by
  rw [restN_lt h hN, restN_lt h hN, restN_pos h, restN_pos h, ← Nat.mul_mod]
theorem mo_add {X Y N : Nat} (h : 0 < N) (hN : N < M256) : restN (restN (X % M256) N % M256 + restN (Y % M256) N % M256) N = restN (X % M256 + Y % M256) N := by
  rw [restN_lt h hN, restN_lt h hN, restN_pos h, restN_pos h, ← Nat.add_mod]
theorem mo_one {X N : Nat} : restN (X % M256 * (1 % M256)) N = restN (X % M256) N := by
  rw [show (1 : Nat) % M256 = 1 from rfl, Nat.mul_one]
theorem mo_cmp {A N : Nat} (h : 0 < N) (hN : N < M256) : cmpI (restN A N % M256) N = -1 := by
  rw [restN_lt h hN]; exact cmpI_lt (Nat.mod_lt _ h)
theorem mo_top {X Y N : Nat} (h : 0 < N) (hY : Y % M256 = M256 - 1) : restN (X % M256 * ((Y + 1) % M256)) N = 0 := by
  have : (Y + 1) % M256 = 0 := by
    rw [← Nat.mod_add_mod, hY, show M256 - 1 + 1 = M256 by decide, Nat.mod_self]
  rw [this, Nat.mul_zero, restN_pos h, Nat.zero_mod]
theorem mo_next {X Y N : Nat} (h : 0 < N) (hN : N < M256) (hY : Y % M256 ≠ M256 - 1) : restN (X % M256 * ((Y + 1) % M256)) N = restN (restN (X % M256 * (Y % M256)) N % M256 + restN (X % M256) N % M256) N := by
  have hy := Nat.mod_lt Y M256_pos
  have : (Y + 1) % M256 = Y % M256 + 1 := by
    rw [← Nat.mod_add_mod, Nat.mod_eq_of_lt (by omega)]
  rw [this, restN_lt h hN, restN_lt h hN, restN_pos h, restN_pos h, ← Nat.add_mod, Nat.mul_add, Nat.mul_one]

set_option maxHeartbeats 8000000 in
set_option maxRecDepth 100000 in
theorem modulo_calls (X Y N : Nat) (w : World) : Calls Try.prog 11 #[wv X, wv Y, wv N] w fun e w' => e = .returned (.bool true) ∧ Below w.heap.size w w' := by
  obtain ⟨x0, x1, x2, x3, hx⟩ := wv_form X
  obtain ⟨y0, y1, y2, y3, hy⟩ := wv_form Y
  obtain ⟨n0, n1, n2, n3, hn⟩ := wv_form N
  obtain ⟨m0, m1, m2, m3, hm⟩ := wv_form (restN (X % M256 * (Y % M256)) (N % M256))
  obtain ⟨d0, d1, d2, d3, hd⟩ := wv_form (restN (X % M256 + Y % M256) (N % M256))
  have k1 := fun W => mulMod_any X Y N W
  simp only [hx, hy, hn, hm] at k1
  have Ck1 := hideP k1
  clear k1
  have k2 := fun W => addMod_any X Y N W
  simp only [hx, hy, hn, hd] at k2
  have Ck2 := hideP k2
  clear k2
  have CAW := hideP (fun W => awake_any W)
  have HF := hideP (⟨hx, hy, hn, hm, hd⟩ : _ ∧ _ ∧ _ ∧ _ ∧ _)
  simp only [hx, hy, hn]
  clear hx hy hn hm hd
  go_enter Try.func11, Try.ntmps11
  go_wp2_with fail
  refine (CAW.out _).mono ?_
  rintro e W0 ⟨rfl, hb⟩
  have HBx : Hid (W0.heap[w.heap.size]? = some (.cells #[.int .u64 x0, .int .u64 x1, .int .u64 x2, .int .u64 x3] 24 (0, 0))) := (kept4 hb ((heap_old _ _ (by simp <;> omega)).trans ((heap_old _ _ (by simp <;> omega)).trans (heap_new _ _)))).1
  have HBy : Hid (W0.heap[w.heap.size + 1]? = some (.cells #[.int .u64 y0, .int .u64 y1, .int .u64 y2, .int .u64 y3] 24 (0, 0))) := (kept4 hb ((heap_old _ _ (by simp <;> omega)).trans (heap_new1 _ _ _))).1
  have HBn : Hid (W0.heap[w.heap.size + 1 + 1]? = some (.cells #[.int .u64 n0, .int .u64 n1, .int .u64 n2, .int .u64 n3] 24 (0, 0))) := (kept4 hb (heap_new2 _ _ _ _)).1
  have HBW : Hid (Below w.heap.size w W0) := ((((Below.refl _ w).alloc (Nat.le_refl _) _).alloc (by simp <;> omega) _).alloc (by simp <;> omega) _).trans (hb.mono (by simp <;> omega))
  clear hb
  go_wp2_with fail
  obtain ⟨cx0, cx1, cx2, cx3⟩ := cells4 HBx.out
  have hlx := (Array.getElem?_eq_some_iff.1 HBx.out).1
  obtain ⟨cy0, cy1, cy2, cy3⟩ := cells4 HBy.out
  have hly := (Array.getElem?_eq_some_iff.1 HBy.out).1
  obtain ⟨cn0, cn1, cn2, cn3⟩ := cells4 HBn.out
  have hln := (Array.getElem?_eq_some_iff.1 HBn.out).1
  go_cut [7, 8] (fun p q wx => ∃ B C : Nat, p = .pointer (some ⟨B, 0, none⟩) ∧ q = .pointer (some ⟨C, 0, none⟩) ∧ wx.heap[B]? = some (.cells #[.int .u64 m0, .int .u64 m1, .int .u64 m2, .int .u64 m3] 24 (0, 0)) ∧ wx.heap[C]? = some (.cells #[.int .u64 d0, .int .u64 d1, .int .u64 d2, .int .u64 d3] 24 (0, 0)) ∧ Below W0.heap.size W0 wx)
  case first =>
    refine wp_region_heldS (S := fun V => Below W0.heap.size W0 V) (by kernel_rfl) (Below.refl _ _).drew (fun hS => ?_)
    refine wpAnyH_take (i := 0) (v := ?_) rfl (by kernel_rfl) (by kernel_rfl) (by kernel_rfl) (fun _ _ _ h => h) (Or.inl ⟨by kernel_rfl, ?_⟩) hS ?_
    rotate_left
    · intro V hV
      have k0 := (hV.cell (p := ⟨w.heap.size, 0, none⟩) hlx).trans cx0
      have k1 := (hV.cell (p := ⟨w.heap.size, 1, none⟩) hlx).trans cx1
      have k2 := (hV.cell (p := ⟨w.heap.size, 2, none⟩) hlx).trans cx2
      have k3 := (hV.cell (p := ⟨w.heap.size, 3, none⟩) hlx).trans cx3
      go_simp
      (try with_reducible rfl)
    simp only [Act.put, List.setIfInBounds_toArray]
    refine wpAnyH_take (i := 1) (v := ?_) rfl (by kernel_rfl) (by kernel_rfl) (by kernel_rfl) (fun _ _ _ h => h) (Or.inl ⟨by kernel_rfl, ?_⟩) hS ?_
    rotate_left
    · intro V hV
      have k0 := (hV.cell (p := ⟨w.heap.size + 1, 0, none⟩) hly).trans cy0
      have k1 := (hV.cell (p := ⟨w.heap.size + 1, 1, none⟩) hly).trans cy1
      have k2 := (hV.cell (p := ⟨w.heap.size + 1, 2, none⟩) hly).trans cy2
      have k3 := (hV.cell (p := ⟨w.heap.size + 1, 3, none⟩) hly).trans cy3
      go_simp
      (try with_reducible rfl)
    simp only [Act.put]
    refine wpAnyH_take (i := 2) (v := ?_) rfl (by kernel_rfl) (by kernel_rfl) (by kernel_rfl) (fun _ _ _ h => h) (Or.inl ⟨by kernel_rfl, ?_⟩) hS ?_
    rotate_left
    · intro V hV
      have k0 := (hV.cell (p := ⟨w.heap.size + 1 + 1, 0, none⟩) hln).trans cn0
      have k1 := (hV.cell (p := ⟨w.heap.size + 1 + 1, 1, none⟩) hln).trans cn1
      have k2 := (hV.cell (p := ⟨w.heap.size + 1 + 1, 2, none⟩) hln).trans cn2
      have k3 := (hV.cell (p := ⟨w.heap.size + 1 + 1, 3, none⟩) hln).trans cn3
      go_simp
      (try with_reducible rfl)
    simp only [Act.put]
    refine wpAnyH_take (i := 4) (v := ?_) rfl (by kernel_rfl) (by kernel_rfl) (by kernel_rfl) (fun _ _ _ h => h) (Or.inl ⟨by kernel_rfl, ?_⟩) hS ?_
    rotate_left
    · intro V hV
      have k0 := (hV.cell (p := ⟨w.heap.size, 0, none⟩) hlx).trans cx0
      have k1 := (hV.cell (p := ⟨w.heap.size, 1, none⟩) hlx).trans cx1
      have k2 := (hV.cell (p := ⟨w.heap.size, 2, none⟩) hlx).trans cx2
      have k3 := (hV.cell (p := ⟨w.heap.size, 3, none⟩) hlx).trans cx3
      go_simp
      (try with_reducible rfl)
    simp only [Act.put]
    refine wpAnyH_take (i := 5) (v := ?_) rfl (by kernel_rfl) (by kernel_rfl) (by kernel_rfl) (fun _ _ _ h => h) (Or.inl ⟨by kernel_rfl, ?_⟩) hS ?_
    rotate_left
    · intro V hV
      have k0 := (hV.cell (p := ⟨w.heap.size + 1, 0, none⟩) hly).trans cy0
      have k1 := (hV.cell (p := ⟨w.heap.size + 1, 1, none⟩) hly).trans cy1
      have k2 := (hV.cell (p := ⟨w.heap.size + 1, 2, none⟩) hly).trans cy2
      have k3 := (hV.cell (p := ⟨w.heap.size + 1, 3, none⟩) hly).trans cy3
      go_simp
      (try with_reducible rfl)
    simp only [Act.put]
    refine wpAnyH_take (i := 6) (v := ?_) rfl (by kernel_rfl) (by kernel_rfl) (by kernel_rfl) (fun _ _ _ h => h) (Or.inl ⟨by kernel_rfl, ?_⟩) hS ?_
    rotate_left
    · intro V hV
      have k0 := (hV.cell (p := ⟨w.heap.size + 1 + 1, 0, none⟩) hln).trans cn0
      have k1 := (hV.cell (p := ⟨w.heap.size + 1 + 1, 1, none⟩) hln).trans cn1
      have k2 := (hV.cell (p := ⟨w.heap.size + 1 + 1, 2, none⟩) hln).trans cn2
      have k3 := (hV.cell (p := ⟨w.heap.size + 1 + 1, 3, none⟩) hln).trans cn3
      go_simp
      (try with_reducible rfl)
    simp only [Act.put]
    refine wpAnyH_ready (rs := [3, 8, 9]) (by kernel_rfl) (by simp) ?_
    refine AllReadyH.cons rfl (fun K hK => ?_) (AllReadyH.cons rfl (fun K hK => ?_) (AllReadyH.cons rfl (fun K hK => ?_) AllReadyH.nil))
    · go_simp
      refine (Ck1.out _).mono ?_
      rintro e U1 ⟨rfl, hbc⟩
      refine hK.out _ _ (hS.trans (hbc.mono hS.size)) (fun hS => ?_)
      clear hK K hbc
      refine wpAnyH_ready (rs := [7, 8, 9]) (by kernel_rfl) (by simp) ?_
      refine AllReadyH.cons rfl (fun K hK => ?_) (AllReadyH.cons rfl (fun K hK => ?_) (AllReadyH.cons rfl (fun K hK => ?_) AllReadyH.nil))
      · go_simp
        refine (Ck2.out _).mono ?_
        rintro e U2 ⟨rfl, hbc⟩
        refine hK.out _ _ (hS.trans (hbc.mono hS.size)) (fun hS => ?_)
        clear hK K hbc
        refine wpAnyH_ready (rs := [8, 9]) (by kernel_rfl) (by simp) ?_
        refine AllReadyH.cons rfl (fun K hK => ?_) (AllReadyH.cons rfl (fun K hK => ?_) AllReadyH.nil)
        · go_simp
          obtain ⟨B8, hBe⟩ : ∃ B8, B8 = U2.heap.size := ⟨_, rfl⟩
          have hZ8 : (U2.alloc (.cells #[.int .u64 0, .int .u64 0, .int .u64 0, .int .u64 0] 24)).heap[B8]? = some (.cells #[.int .u64 0, .int .u64 0, .int .u64 0, .int .u64 0] 24 (0, 0)) := by rw [hBe]; exact heap_new _ _
          have hL8 : W0.heap.size ≤ B8 := by rw [hBe]; exact hS.size
          have hSA : Below W0.heap.size W0 (U2.alloc (.cells #[.int .u64 0, .int .u64 0, .int .u64 0, .int .u64 0] 24)) := hS.alloc hS.size _
          rw [← hBe]
          have hLT8 : B8 < (U2.alloc (.cells #[.int .u64 0, .int .u64 0, .int .u64 0, .int .u64 0] 24)).heap.size := (Array.getElem?_eq_some_iff.1 hZ8).1
          generalize (U2.alloc (.cells #[.int .u64 0, .int .u64 0, .int .u64 0, .int .u64 0] 24)) = U3 at hZ8  hSA hLT8  ⊢
          refine hK.out _ _ hSA (fun hS => ?_)
          clear hK K hSA hBe
          refine wpAnyH_ready (rs := [9]) (by kernel_rfl) (by simp) ?_
          refine AllReadyH.cons rfl (fun K hK => ?_) AllReadyH.nil
          · go_simp
            obtain ⟨B9, hBe⟩ : ∃ B9, B9 = U3.heap.size := ⟨_, rfl⟩
            have hZ9 : (U3.alloc (.cells #[.int .u64 0, .int .u64 0, .int .u64 0, .int .u64 0] 24)).heap[B9]? = some (.cells #[.int .u64 0, .int .u64 0, .int .u64 0, .int .u64 0] 24 (0, 0)) := by rw [hBe]; exact heap_new _ _
            have hL9 : W0.heap.size ≤ B9 := by rw [hBe]; exact hS.size
            have hSA : Below W0.heap.size W0 (U3.alloc (.cells #[.int .u64 0, .int .u64 0, .int .u64 0, .int .u64 0] 24)) := hS.alloc hS.size _
            have hY8 : (U3.alloc (.cells #[.int .u64 0, .int .u64 0, .int .u64 0, .int .u64 0] 24)).heap[B8]? = _ := (heap_old _ _ (Array.getElem?_eq_some_iff.1 hZ8).1).trans hZ8
            clear hZ8
            have hZ8 := hY8
            clear hY8
            have hN98 : B8 ≠ B9 := by rw [hBe]; exact Nat.ne_of_lt (hLT8)
            rw [← hBe]
            have hLT9 : B9 < (U3.alloc (.cells #[.int .u64 0, .int .u64 0, .int .u64 0, .int .u64 0] 24)).heap.size := (Array.getElem?_eq_some_iff.1 hZ9).1
            have hQ8 : B8 < (U3.alloc (.cells #[.int .u64 0, .int .u64 0, .int .u64 0, .int .u64 0] 24)).heap.size := (Array.getElem?_eq_some_iff.1 hZ8).1
            clear hLT8
            have hLT8 := hQ8
            clear hQ8
            generalize (U3.alloc (.cells #[.int .u64 0, .int .u64 0, .int .u64 0, .int .u64 0] 24)) = U4 at hZ9 hZ8 hSA hLT9 hLT8 ⊢
            refine hK.out _ _ hSA (fun hS => ?_)
            clear hK K hSA hBe
            obtain ⟨a0, a1, a2, a3⟩ := cells4 hZ8
            have fa : ∀ o, U4.frozen? ⟨B8, o, none⟩ = false := fun o => blk_free hZ8
            refine wpAnyH_ready (rs := [10]) (by kernel_rfl) (by simp) (AllReadyH.cons rfl (fun K hK => ?_) AllReadyH.nil)
            go_simp
            have g8 := stored4 (z0 := .int .u64 m0) (z1 := .int .u64 m1) (z2 := .int .u64 m2) (z3 := .int .u64 m3) hZ8
            have hSB := below_stored4 (b := B8) (z0 := .int .u64 m0) (z1 := .int .u64 m1) (z2 := .int .u64 m2) (z3 := .int .u64 m3) hS hL8
            have o9 := (other4 (b := B8) (c := B9) (z0 := .int .u64 m0) (z1 := .int .u64 m1) (z2 := .int .u64 m2) (z3 := .int .u64 m3) (by first | exact hN98 | exact (hN98).symm | exact hN89 | exact (hN89).symm)).trans hZ9
            clear hZ9
            have hZ9 := o9
            clear o9
            generalize ((((U4.setCell ⟨B8, 0, none⟩ (.int .u64 m0)).setCell ⟨B8, 1, none⟩ (.int .u64 m1)).setCell ⟨B8, 2, none⟩ (.int .u64 m2)).setCell ⟨B8, 3, none⟩ (.int .u64 m3)) = U4x at g8 hSB hZ9 ⊢
            refine hK.out _ _ hSB (fun hS => ?_)
            clear hK K hSB a0 a1 a2 a3 fa hZ8
            obtain ⟨a0, a1, a2, a3⟩ := cells4 hZ9
            have fa : ∀ o, U4x.frozen? ⟨B9, o, none⟩ = false := fun o => blk_free hZ9
            refine wpAnyH_ready (rs := [11]) (by kernel_rfl) (by simp) (AllReadyH.cons rfl (fun K hK => ?_) AllReadyH.nil)
            go_simp
            have g9 := stored4 (z0 := .int .u64 d0) (z1 := .int .u64 d1) (z2 := .int .u64 d2) (z3 := .int .u64 d3) hZ9
            have hSB := below_stored4 (b := B9) (z0 := .int .u64 d0) (z1 := .int .u64 d1) (z2 := .int .u64 d2) (z3 := .int .u64 d3) hS hL9
            have o8 := (other4 (b := B9) (c := B8) (z0 := .int .u64 d0) (z1 := .int .u64 d1) (z2 := .int .u64 d2) (z3 := .int .u64 d3) (by first | exact hN89 | exact (hN89).symm | exact hN98 | exact (hN98).symm)).trans g8
            clear g8
            have g8 := o8
            clear o8
            generalize ((((U4x.setCell ⟨B9, 0, none⟩ (.int .u64 d0)).setCell ⟨B9, 1, none⟩ (.int .u64 d1)).setCell ⟨B9, 2, none⟩ (.int .u64 d2)).setCell ⟨B9, 3, none⟩ (.int .u64 d3)) = U4xx at g9 hSB g8 ⊢
            refine hK.out _ _ hSB (fun hS => wpAnyH_done (by kernel_rfl) ?_ _)
            clear hK K
            go_wp2_with fail
            go_meet
            exact ⟨B8, B9, rfl, rfl, g8, g9, hSB⟩
        · go_simp
          obtain ⟨B9, hBe⟩ : ∃ B9, B9 = U2.heap.size := ⟨_, rfl⟩
          have hZ9 : (U2.alloc (.cells #[.int .u64 0, .int .u64 0, .int .u64 0, .int .u64 0] 24)).heap[B9]? = some (.cells #[.int .u64 0, .int .u64 0, .int .u64 0, .int .u64 0] 24 (0, 0)) := by rw [hBe]; exact heap_new _ _
          have hL9 : W0.heap.size ≤ B9 := by rw [hBe]; exact hS.size
          have hSA : Below W0.heap.size W0 (U2.alloc (.cells #[.int .u64 0, .int .u64 0, .int .u64 0, .int .u64 0] 24)) := hS.alloc hS.size _
          rw [← hBe]
          have hLT9 : B9 < (U2.alloc (.cells #[.int .u64 0, .int .u64 0, .int .u64 0, .int .u64 0] 24)).heap.size := (Array.getElem?_eq_some_iff.1 hZ9).1
          generalize (U2.alloc (.cells #[.int .u64 0, .int .u64 0, .int .u64 0, .int .u64 0] 24)) = U5 at hZ9  hSA hLT9  ⊢
          refine hK.out _ _ hSA (fun hS => ?_)
          clear hK K hSA hBe
          refine wpAnyH_ready (rs := [8]) (by kernel_rfl) (by simp) ?_
          refine AllReadyH.cons rfl (fun K hK => ?_) AllReadyH.nil
          · go_simp
            obtain ⟨B8, hBe⟩ : ∃ B8, B8 = U5.heap.size := ⟨_, rfl⟩
            have hZ8 : (U5.alloc (.cells #[.int .u64 0, .int .u64 0, .int .u64 0, .int .u64 0] 24)).heap[B8]? = some (.cells #[.int .u64 0, .int .u64 0, .int .u64 0, .int .u64 0] 24 (0, 0)) := by rw [hBe]; exact heap_new _ _
            have hL8 : W0.heap.size ≤ B8 := by rw [hBe]; exact hS.size
            have hSA : Below W0.heap.size W0 (U5.alloc (.cells #[.int .u64 0, .int .u64 0, .int .u64 0, .int .u64 0] 24)) := hS.alloc hS.size _
            have hY9 : (U5.alloc (.cells #[.int .u64 0, .int .u64 0, .int .u64 0, .int .u64 0] 24)).heap[B9]? = _ := (heap_old _ _ (Array.getElem?_eq_some_iff.1 hZ9).1).trans hZ9
            clear hZ9
            have hZ9 := hY9
            clear hY9
            have hN89 : B9 ≠ B8 := by rw [hBe]; exact Nat.ne_of_lt (hLT9)
            rw [← hBe]
            have hLT8 : B8 < (U5.alloc (.cells #[.int .u64 0, .int .u64 0, .int .u64 0, .int .u64 0] 24)).heap.size := (Array.getElem?_eq_some_iff.1 hZ8).1
            have hQ9 : B9 < (U5.alloc (.cells #[.int .u64 0, .int .u64 0, .int .u64 0, .int .u64 0] 24)).heap.size := (Array.getElem?_eq_some_iff.1 hZ9).1
            clear hLT9
            have hLT9 := hQ9
            clear hQ9
            generalize (U5.alloc (.cells #[.int .u64 0, .int .u64 0, .int .u64 0, .int .u64 0] 24)) = U6 at hZ8 hZ9 hSA hLT8 hLT9 ⊢
            refine hK.out _ _ hSA (fun hS => ?_)
            clear hK K hSA hBe
            obtain ⟨a0, a1, a2, a3⟩ := cells4 hZ8
            have fa : ∀ o, U6.frozen? ⟨B8, o, none⟩ = false := fun o => blk_free hZ8
            refine wpAnyH_ready (rs := [10]) (by kernel_rfl) (by simp) (AllReadyH.cons rfl (fun K hK => ?_) AllReadyH.nil)
            go_simp
            have g8 := stored4 (z0 := .int .u64 m0) (z1 := .int .u64 m1) (z2 := .int .u64 m2) (z3 := .int .u64 m3) hZ8
            have hSB := below_stored4 (b := B8) (z0 := .int .u64 m0) (z1 := .int .u64 m1) (z2 := .int .u64 m2) (z3 := .int .u64 m3) hS hL8
            have o9 := (other4 (b := B8) (c := B9) (z0 := .int .u64 m0) (z1 := .int .u64 m1) (z2 := .int .u64 m2) (z3 := .int .u64 m3) (by first | exact hN98 | exact (hN98).symm | exact hN89 | exact (hN89).symm)).trans hZ9
            clear hZ9
            have hZ9 := o9
            clear o9
            generalize ((((U6.setCell ⟨B8, 0, none⟩ (.int .u64 m0)).setCell ⟨B8, 1, none⟩ (.int .u64 m1)).setCell ⟨B8, 2, none⟩ (.int .u64 m2)).setCell ⟨B8, 3, none⟩ (.int .u64 m3)) = U6x at g8 hSB hZ9 ⊢
            refine hK.out _ _ hSB (fun hS => ?_)
            clear hK K hSB a0 a1 a2 a3 fa hZ8
            obtain ⟨a0, a1, a2, a3⟩ := cells4 hZ9
            have fa : ∀ o, U6x.frozen? ⟨B9, o, none⟩ = false := fun o => blk_free hZ9
            refine wpAnyH_ready (rs := [11]) (by kernel_rfl) (by simp) (AllReadyH.cons rfl (fun K hK => ?_) AllReadyH.nil)
            go_simp
            have g9 := stored4 (z0 := .int .u64 d0) (z1 := .int .u64 d1) (z2 := .int .u64 d2) (z3 := .int .u64 d3) hZ9
            have hSB := below_stored4 (b := B9) (z0 := .int .u64 d0) (z1 := .int .u64 d1) (z2 := .int .u64 d2) (z3 := .int .u64 d3) hS hL9
            have o8 := (other4 (b := B9) (c := B8) (z0 := .int .u64 d0) (z1 := .int .u64 d1) (z2 := .int .u64 d2) (z3 := .int .u64 d3) (by first | exact hN89 | exact (hN89).symm | exact hN98 | exact (hN98).symm)).trans g8
            clear g8
            have g8 := o8
            clear o8
            generalize ((((U6x.setCell ⟨B9, 0, none⟩ (.int .u64 d0)).setCell ⟨B9, 1, none⟩ (.int .u64 d1)).setCell ⟨B9, 2, none⟩ (.int .u64 d2)).setCell ⟨B9, 3, none⟩ (.int .u64 d3)) = U6xx at g9 hSB g8 ⊢
            refine hK.out _ _ hSB (fun hS => wpAnyH_done (by kernel_rfl) ?_ _)
            clear hK K
            go_wp2_with fail
            go_meet
            exact ⟨B8, B9, rfl, rfl, g8, g9, hSB⟩
      · go_simp
        obtain ⟨B8, hBe⟩ : ∃ B8, B8 = U1.heap.size := ⟨_, rfl⟩
        have hZ8 : (U1.alloc (.cells #[.int .u64 0, .int .u64 0, .int .u64 0, .int .u64 0] 24)).heap[B8]? = some (.cells #[.int .u64 0, .int .u64 0, .int .u64 0, .int .u64 0] 24 (0, 0)) := by rw [hBe]; exact heap_new _ _
        have hL8 : W0.heap.size ≤ B8 := by rw [hBe]; exact hS.size
        have hSA : Below W0.heap.size W0 (U1.alloc (.cells #[.int .u64 0, .int .u64 0, .int .u64 0, .int .u64 0] 24)) := hS.alloc hS.size _
        rw [← hBe]
        have hLT8 : B8 < (U1.alloc (.cells #[.int .u64 0, .int .u64 0, .int .u64 0, .int .u64 0] 24)).heap.size := (Array.getElem?_eq_some_iff.1 hZ8).1
        generalize (U1.alloc (.cells #[.int .u64 0, .int .u64 0, .int .u64 0, .int .u64 0] 24)) = U7 at hZ8  hSA hLT8  ⊢
        refine hK.out _ _ hSA (fun hS => ?_)
        clear hK K hSA hBe
        refine wpAnyH_ready (rs := [7, 9]) (by kernel_rfl) (by simp) ?_
        refine AllReadyH.cons rfl (fun K hK => ?_) (AllReadyH.cons rfl (fun K hK => ?_) AllReadyH.nil)
        · go_simp
          refine (Ck2.out _).mono ?_
          rintro e U8 ⟨rfl, hbc⟩
          refine hK.out _ _ (hS.trans (hbc.mono hS.size)) (fun hS => ?_)
          replace hZ8 := (hbc.block B8 (Array.getElem?_eq_some_iff.1 hZ8).1).trans hZ8
          replace hLT8 := (Array.getElem?_eq_some_iff.1 hZ8).1
          clear hK K hbc
          refine wpAnyH_ready (rs := [9]) (by kernel_rfl) (by simp) ?_
          refine AllReadyH.cons rfl (fun K hK => ?_) AllReadyH.nil
          · go_simp
            obtain ⟨B9, hBe⟩ : ∃ B9, B9 = U8.heap.size := ⟨_, rfl⟩
            have hZ9 : (U8.alloc (.cells #[.int .u64 0, .int .u64 0, .int .u64 0, .int .u64 0] 24)).heap[B9]? = some (.cells #[.int .u64 0, .int .u64 0, .int .u64 0, .int .u64 0] 24 (0, 0)) := by rw [hBe]; exact heap_new _ _
            have hL9 : W0.heap.size ≤ B9 := by rw [hBe]; exact hS.size
            have hSA : Below W0.heap.size W0 (U8.alloc (.cells #[.int .u64 0, .int .u64 0, .int .u64 0, .int .u64 0] 24)) := hS.alloc hS.size _
            have hY8 : (U8.alloc (.cells #[.int .u64 0, .int .u64 0, .int .u64 0, .int .u64 0] 24)).heap[B8]? = _ := (heap_old _ _ (Array.getElem?_eq_some_iff.1 hZ8).1).trans hZ8
            clear hZ8
            have hZ8 := hY8
            clear hY8
            have hN98 : B8 ≠ B9 := by rw [hBe]; exact Nat.ne_of_lt (hLT8)
            rw [← hBe]
            have hLT9 : B9 < (U8.alloc (.cells #[.int .u64 0, .int .u64 0, .int .u64 0, .int .u64 0] 24)).heap.size := (Array.getElem?_eq_some_iff.1 hZ9).1
            have hQ8 : B8 < (U8.alloc (.cells #[.int .u64 0, .int .u64 0, .int .u64 0, .int .u64 0] 24)).heap.size := (Array.getElem?_eq_some_iff.1 hZ8).1
            clear hLT8
            have hLT8 := hQ8
            clear hQ8
            generalize (U8.alloc (.cells #[.int .u64 0, .int .u64 0, .int .u64 0, .int .u64 0] 24)) = U9 at hZ9 hZ8 hSA hLT9 hLT8 ⊢
            refine hK.out _ _ hSA (fun hS => ?_)
            clear hK K hSA hBe
            obtain ⟨a0, a1, a2, a3⟩ := cells4 hZ8
            have fa : ∀ o, U9.frozen? ⟨B8, o, none⟩ = false := fun o => blk_free hZ8
            refine wpAnyH_ready (rs := [10]) (by kernel_rfl) (by simp) (AllReadyH.cons rfl (fun K hK => ?_) AllReadyH.nil)
            go_simp
            have g8 := stored4 (z0 := .int .u64 m0) (z1 := .int .u64 m1) (z2 := .int .u64 m2) (z3 := .int .u64 m3) hZ8
            have hSB := below_stored4 (b := B8) (z0 := .int .u64 m0) (z1 := .int .u64 m1) (z2 := .int .u64 m2) (z3 := .int .u64 m3) hS hL8
            have o9 := (other4 (b := B8) (c := B9) (z0 := .int .u64 m0) (z1 := .int .u64 m1) (z2 := .int .u64 m2) (z3 := .int .u64 m3) (by first | exact hN98 | exact (hN98).symm | exact hN89 | exact (hN89).symm)).trans hZ9
            clear hZ9
            have hZ9 := o9
            clear o9
            generalize ((((U9.setCell ⟨B8, 0, none⟩ (.int .u64 m0)).setCell ⟨B8, 1, none⟩ (.int .u64 m1)).setCell ⟨B8, 2, none⟩ (.int .u64 m2)).setCell ⟨B8, 3, none⟩ (.int .u64 m3)) = U9x at g8 hSB hZ9 ⊢
            refine hK.out _ _ hSB (fun hS => ?_)
            clear hK K hSB a0 a1 a2 a3 fa hZ8
            obtain ⟨a0, a1, a2, a3⟩ := cells4 hZ9
            have fa : ∀ o, U9x.frozen? ⟨B9, o, none⟩ = false := fun o => blk_free hZ9
            refine wpAnyH_ready (rs := [11]) (by kernel_rfl) (by simp) (AllReadyH.cons rfl (fun K hK => ?_) AllReadyH.nil)
            go_simp
            have g9 := stored4 (z0 := .int .u64 d0) (z1 := .int .u64 d1) (z2 := .int .u64 d2) (z3 := .int .u64 d3) hZ9
            have hSB := below_stored4 (b := B9) (z0 := .int .u64 d0) (z1 := .int .u64 d1) (z2 := .int .u64 d2) (z3 := .int .u64 d3) hS hL9
            have o8 := (other4 (b := B9) (c := B8) (z0 := .int .u64 d0) (z1 := .int .u64 d1) (z2 := .int .u64 d2) (z3 := .int .u64 d3) (by first | exact hN89 | exact (hN89).symm | exact hN98 | exact (hN98).symm)).trans g8
            clear g8
            have g8 := o8
            clear o8
            generalize ((((U9x.setCell ⟨B9, 0, none⟩ (.int .u64 d0)).setCell ⟨B9, 1, none⟩ (.int .u64 d1)).setCell ⟨B9, 2, none⟩ (.int .u64 d2)).setCell ⟨B9, 3, none⟩ (.int .u64 d3)) = U9xx at g9 hSB g8 ⊢
            refine hK.out _ _ hSB (fun hS => wpAnyH_done (by kernel_rfl) ?_ _)
            clear hK K
            go_wp2_with fail
            go_meet
            exact ⟨B8, B9, rfl, rfl, g8, g9, hSB⟩
        · go_simp
          obtain ⟨B9, hBe⟩ : ∃ B9, B9 = U7.heap.size := ⟨_, rfl⟩
          have hZ9 : (U7.alloc (.cells #[.int .u64 0, .int .u64 0, .int .u64 0, .int .u64 0] 24)).heap[B9]? = some (.cells #[.int .u64 0, .int .u64 0, .int .u64 0, .int .u64 0] 24 (0, 0)) := by rw [hBe]; exact heap_new _ _
          have hL9 : W0.heap.size ≤ B9 := by rw [hBe]; exact hS.size
          have hSA : Below W0.heap.size W0 (U7.alloc (.cells #[.int .u64 0, .int .u64 0, .int .u64 0, .int .u64 0] 24)) := hS.alloc hS.size _
          have hY8 : (U7.alloc (.cells #[.int .u64 0, .int .u64 0, .int .u64 0, .int .u64 0] 24)).heap[B8]? = _ := (heap_old _ _ (Array.getElem?_eq_some_iff.1 hZ8).1).trans hZ8
          clear hZ8
          have hZ8 := hY8
          clear hY8
          have hN98 : B8 ≠ B9 := by rw [hBe]; exact Nat.ne_of_lt (hLT8)
          rw [← hBe]
          have hLT9 : B9 < (U7.alloc (.cells #[.int .u64 0, .int .u64 0, .int .u64 0, .int .u64 0] 24)).heap.size := (Array.getElem?_eq_some_iff.1 hZ9).1
          have hQ8 : B8 < (U7.alloc (.cells #[.int .u64 0, .int .u64 0, .int .u64 0, .int .u64 0] 24)).heap.size := (Array.getElem?_eq_some_iff.1 hZ8).1
          clear hLT8
          have hLT8 := hQ8
          clear hQ8
          generalize (U7.alloc (.cells #[.int .u64 0, .int .u64 0, .int .u64 0, .int .u64 0] 24)) = U10 at hZ9 hZ8 hSA hLT9 hLT8 ⊢
          refine hK.out _ _ hSA (fun hS => ?_)
          clear hK K hSA hBe
          refine wpAnyH_ready (rs := [7]) (by kernel_rfl) (by simp) ?_
          refine AllReadyH.cons rfl (fun K hK => ?_) AllReadyH.nil
          · go_simp
            refine (Ck2.out _).mono ?_
            rintro e U11 ⟨rfl, hbc⟩
            refine hK.out _ _ (hS.trans (hbc.mono hS.size)) (fun hS => ?_)
            replace hZ8 := (hbc.block B8 (Array.getElem?_eq_some_iff.1 hZ8).1).trans hZ8
            replace hLT8 := (Array.getElem?_eq_some_iff.1 hZ8).1
            replace hZ9 := (hbc.block B9 (Array.getElem?_eq_some_iff.1 hZ9).1).trans hZ9
            replace hLT9 := (Array.getElem?_eq_some_iff.1 hZ9).1
            clear hK K hbc
            obtain ⟨a0, a1, a2, a3⟩ := cells4 hZ8
            have fa : ∀ o, U11.frozen? ⟨B8, o, none⟩ = false := fun o => blk_free hZ8
            refine wpAnyH_ready (rs := [10]) (by kernel_rfl) (by simp) (AllReadyH.cons rfl (fun K hK => ?_) AllReadyH.nil)
            go_simp
            have g8 := stored4 (z0 := .int .u64 m0) (z1 := .int .u64 m1) (z2 := .int .u64 m2) (z3 := .int .u64 m3) hZ8
            have hSB := below_stored4 (b := B8) (z0 := .int .u64 m0) (z1 := .int .u64 m1) (z2 := .int .u64 m2) (z3 := .int .u64 m3) hS hL8
            have o9 := (other4 (b := B8) (c := B9) (z0 := .int .u64 m0) (z1 := .int .u64 m1) (z2 := .int .u64 m2) (z3 := .int .u64 m3) (by first | exact hN98 | exact (hN98).symm | exact hN89 | exact (hN89).symm)).trans hZ9
            clear hZ9
            have hZ9 := o9
            clear o9
            generalize ((((U11.setCell ⟨B8, 0, none⟩ (.int .u64 m0)).setCell ⟨B8, 1, none⟩ (.int .u64 m1)).setCell ⟨B8, 2, none⟩ (.int .u64 m2)).setCell ⟨B8, 3, none⟩ (.int .u64 m3)) = U11x at g8 hSB hZ9 ⊢
            refine hK.out _ _ hSB (fun hS => ?_)
            clear hK K hSB a0 a1 a2 a3 fa hZ8
            obtain ⟨a0, a1, a2, a3⟩ := cells4 hZ9
            have fa : ∀ o, U11x.frozen? ⟨B9, o, none⟩ = false := fun o => blk_free hZ9
            refine wpAnyH_ready (rs := [11]) (by kernel_rfl) (by simp) (AllReadyH.cons rfl (fun K hK => ?_) AllReadyH.nil)
            go_simp
            have g9 := stored4 (z0 := .int .u64 d0) (z1 := .int .u64 d1) (z2 := .int .u64 d2) (z3 := .int .u64 d3) hZ9
            have hSB := below_stored4 (b := B9) (z0 := .int .u64 d0) (z1 := .int .u64 d1) (z2 := .int .u64 d2) (z3 := .int .u64 d3) hS hL9
            have o8 := (other4 (b := B9) (c := B8) (z0 := .int .u64 d0) (z1 := .int .u64 d1) (z2 := .int .u64 d2) (z3 := .int .u64 d3) (by first | exact hN89 | exact (hN89).symm | exact hN98 | exact (hN98).symm)).trans g8
            clear g8
            have g8 := o8
            clear o8
            generalize ((((U11x.setCell ⟨B9, 0, none⟩ (.int .u64 d0)).setCell ⟨B9, 1, none⟩ (.int .u64 d1)).setCell ⟨B9, 2, none⟩ (.int .u64 d2)).setCell ⟨B9, 3, none⟩ (.int .u64 d3)) = U11xx at g9 hSB g8 ⊢
            refine hK.out _ _ hSB (fun hS => wpAnyH_done (by kernel_rfl) ?_ _)
            clear hK K
            go_wp2_with fail
            go_meet
            exact ⟨B8, B9, rfl, rfl, g8, g9, hSB⟩
      · go_simp
        obtain ⟨B9, hBe⟩ : ∃ B9, B9 = U1.heap.size := ⟨_, rfl⟩
        have hZ9 : (U1.alloc (.cells #[.int .u64 0, .int .u64 0, .int .u64 0, .int .u64 0] 24)).heap[B9]? = some (.cells #[.int .u64 0, .int .u64 0, .int .u64 0, .int .u64 0] 24 (0, 0)) := by rw [hBe]; exact heap_new _ _
        have hL9 : W0.heap.size ≤ B9 := by rw [hBe]; exact hS.size
        have hSA : Below W0.heap.size W0 (U1.alloc (.cells #[.int .u64 0, .int .u64 0, .int .u64 0, .int .u64 0] 24)) := hS.alloc hS.size _
        rw [← hBe]
        have hLT9 : B9 < (U1.alloc (.cells #[.int .u64 0, .int .u64 0, .int .u64 0, .int .u64 0] 24)).heap.size := (Array.getElem?_eq_some_iff.1 hZ9).1
        generalize (U1.alloc (.cells #[.int .u64 0, .int .u64 0, .int .u64 0, .int .u64 0] 24)) = U12 at hZ9  hSA hLT9  ⊢
        refine hK.out _ _ hSA (fun hS => ?_)
        clear hK K hSA hBe
        refine wpAnyH_ready (rs := [7, 8]) (by kernel_rfl) (by simp) ?_
        refine AllReadyH.cons rfl (fun K hK => ?_) (AllReadyH.cons rfl (fun K hK => ?_) AllReadyH.nil)
        · go_simp
          refine (Ck2.out _).mono ?_
          rintro e U13 ⟨rfl, hbc⟩
          refine hK.out _ _ (hS.trans (hbc.mono hS.size)) (fun hS => ?_)
          replace hZ9 := (hbc.block B9 (Array.getElem?_eq_some_iff.1 hZ9).1).trans hZ9
          replace hLT9 := (Array.getElem?_eq_some_iff.1 hZ9).1
          clear hK K hbc
          refine wpAnyH_ready (rs := [8]) (by kernel_rfl) (by simp) ?_
          refine AllReadyH.cons rfl (fun K hK => ?_) AllReadyH.nil
          · go_simp
            obtain ⟨B8, hBe⟩ : ∃ B8, B8 = U13.heap.size := ⟨_, rfl⟩
            have hZ8 : (U13.alloc (.cells #[.int .u64 0, .int .u64 0, .int .u64 0, .int .u64 0] 24)).heap[B8]? = some (.cells #[.int .u64 0, .int .u64 0, .int .u64 0, .int .u64 0] 24 (0, 0)) := by rw [hBe]; exact heap_new _ _
            have hL8 : W0.heap.size ≤ B8 := by rw [hBe]; exact hS.size
            have hSA : Below W0.heap.size W0 (U13.alloc (.cells #[.int .u64 0, .int .u64 0, .int .u64 0, .int .u64 0] 24)) := hS.alloc hS.size _
            have hY9 : (U13.alloc (.cells #[.int .u64 0, .int .u64 0, .int .u64 0, .int .u64 0] 24)).heap[B9]? = _ := (heap_old _ _ (Array.getElem?_eq_some_iff.1 hZ9).1).trans hZ9
            clear hZ9
            have hZ9 := hY9
            clear hY9
            have hN89 : B9 ≠ B8 := by rw [hBe]; exact Nat.ne_of_lt (hLT9)
            rw [← hBe]
            have hLT8 : B8 < (U13.alloc (.cells #[.int .u64 0, .int .u64 0, .int .u64 0, .int .u64 0] 24)).heap.size := (Array.getElem?_eq_some_iff.1 hZ8).1
            have hQ9 : B9 < (U13.alloc (.cells #[.int .u64 0, .int .u64 0, .int .u64 0, .int .u64 0] 24)).heap.size := (Array.getElem?_eq_some_iff.1 hZ9).1
            clear hLT9
            have hLT9 := hQ9
            clear hQ9
            generalize (U13.alloc (.cells #[.int .u64 0, .int .u64 0, .int .u64 0, .int .u64 0] 24)) = U14 at hZ8 hZ9 hSA hLT8 hLT9 ⊢
            refine hK.out _ _ hSA (fun hS => ?_)
            clear hK K hSA hBe
            obtain ⟨a0, a1, a2, a3⟩ := cells4 hZ8
            have fa : ∀ o, U14.frozen? ⟨B8, o, none⟩ = false := fun o => blk_free hZ8
            refine wpAnyH_ready (rs := [10]) (by kernel_rfl) (by simp) (AllReadyH.cons rfl (fun K hK => ?_) AllReadyH.nil)
            go_simp
            have g8 := stored4 (z0 := .int .u64 m0) (z1 := .int .u64 m1) (z2 := .int .u64 m2) (z3 := .int .u64 m3) hZ8
            have hSB := below_stored4 (b := B8) (z0 := .int .u64 m0) (z1 := .int .u64 m1) (z2 := .int .u64 m2) (z3 := .int .u64 m3) hS hL8
            have o9 := (other4 (b := B8) (c := B9) (z0 := .int .u64 m0) (z1 := .int .u64 m1) (z2 := .int .u64 m2) (z3 := .int .u64 m3) (by first | exact hN98 | exact (hN98).symm | exact hN89 | exact (hN89).symm)).trans hZ9
            clear hZ9
            have hZ9 := o9
            clear o9
            generalize ((((U14.setCell ⟨B8, 0, none⟩ (.int .u64 m0)).setCell ⟨B8, 1, none⟩ (.int .u64 m1)).setCell ⟨B8, 2, none⟩ (.int .u64 m2)).setCell ⟨B8, 3, none⟩ (.int .u64 m3)) = U14x at g8 hSB hZ9 ⊢
            refine hK.out _ _ hSB (fun hS => ?_)
            clear hK K hSB a0 a1 a2 a3 fa hZ8
            obtain ⟨a0, a1, a2, a3⟩ := cells4 hZ9
            have fa : ∀ o, U14x.frozen? ⟨B9, o, none⟩ = false := fun o => blk_free hZ9
            refine wpAnyH_ready (rs := [11]) (by kernel_rfl) (by simp) (AllReadyH.cons rfl (fun K hK => ?_) AllReadyH.nil)
            go_simp
            have g9 := stored4 (z0 := .int .u64 d0) (z1 := .int .u64 d1) (z2 := .int .u64 d2) (z3 := .int .u64 d3) hZ9
            have hSB := below_stored4 (b := B9) (z0 := .int .u64 d0) (z1 := .int .u64 d1) (z2 := .int .u64 d2) (z3 := .int .u64 d3) hS hL9
            have o8 := (other4 (b := B9) (c := B8) (z0 := .int .u64 d0) (z1 := .int .u64 d1) (z2 := .int .u64 d2) (z3 := .int .u64 d3) (by first | exact hN89 | exact (hN89).symm | exact hN98 | exact (hN98).symm)).trans g8
            clear g8
            have g8 := o8
            clear o8
            generalize ((((U14x.setCell ⟨B9, 0, none⟩ (.int .u64 d0)).setCell ⟨B9, 1, none⟩ (.int .u64 d1)).setCell ⟨B9, 2, none⟩ (.int .u64 d2)).setCell ⟨B9, 3, none⟩ (.int .u64 d3)) = U14xx at g9 hSB g8 ⊢
            refine hK.out _ _ hSB (fun hS => wpAnyH_done (by kernel_rfl) ?_ _)
            clear hK K
            go_wp2_with fail
            go_meet
            exact ⟨B8, B9, rfl, rfl, g8, g9, hSB⟩
        · go_simp
          obtain ⟨B8, hBe⟩ : ∃ B8, B8 = U12.heap.size := ⟨_, rfl⟩
          have hZ8 : (U12.alloc (.cells #[.int .u64 0, .int .u64 0, .int .u64 0, .int .u64 0] 24)).heap[B8]? = some (.cells #[.int .u64 0, .int .u64 0, .int .u64 0, .int .u64 0] 24 (0, 0)) := by rw [hBe]; exact heap_new _ _
          have hL8 : W0.heap.size ≤ B8 := by rw [hBe]; exact hS.size
          have hSA : Below W0.heap.size W0 (U12.alloc (.cells #[.int .u64 0, .int .u64 0, .int .u64 0, .int .u64 0] 24)) := hS.alloc hS.size _
          have hY9 : (U12.alloc (.cells #[.int .u64 0, .int .u64 0, .int .u64 0, .int .u64 0] 24)).heap[B9]? = _ := (heap_old _ _ (Array.getElem?_eq_some_iff.1 hZ9).1).trans hZ9
          clear hZ9
          have hZ9 := hY9
          clear hY9
          have hN89 : B9 ≠ B8 := by rw [hBe]; exact Nat.ne_of_lt (hLT9)
          rw [← hBe]
          have hLT8 : B8 < (U12.alloc (.cells #[.int .u64 0, .int .u64 0, .int .u64 0, .int .u64 0] 24)).heap.size := (Array.getElem?_eq_some_iff.1 hZ8).1
          have hQ9 : B9 < (U12.alloc (.cells #[.int .u64 0, .int .u64 0, .int .u64 0, .int .u64 0] 24)).heap.size := (Array.getElem?_eq_some_iff.1 hZ9).1
          clear hLT9
          have hLT9 := hQ9
          clear hQ9
          generalize (U12.alloc (.cells #[.int .u64 0, .int .u64 0, .int .u64 0, .int .u64 0] 24)) = U15 at hZ8 hZ9 hSA hLT8 hLT9 ⊢
          refine hK.out _ _ hSA (fun hS => ?_)
          clear hK K hSA hBe
          refine wpAnyH_ready (rs := [7]) (by kernel_rfl) (by simp) ?_
          refine AllReadyH.cons rfl (fun K hK => ?_) AllReadyH.nil
          · go_simp
            refine (Ck2.out _).mono ?_
            rintro e U16 ⟨rfl, hbc⟩
            refine hK.out _ _ (hS.trans (hbc.mono hS.size)) (fun hS => ?_)
            replace hZ9 := (hbc.block B9 (Array.getElem?_eq_some_iff.1 hZ9).1).trans hZ9
            replace hLT9 := (Array.getElem?_eq_some_iff.1 hZ9).1
            replace hZ8 := (hbc.block B8 (Array.getElem?_eq_some_iff.1 hZ8).1).trans hZ8
            replace hLT8 := (Array.getElem?_eq_some_iff.1 hZ8).1
            clear hK K hbc
            obtain ⟨a0, a1, a2, a3⟩ := cells4 hZ8
            have fa : ∀ o, U16.frozen? ⟨B8, o, none⟩ = false := fun o => blk_free hZ8
            refine wpAnyH_ready (rs := [10]) (by kernel_rfl) (by simp) (AllReadyH.cons rfl (fun K hK => ?_) AllReadyH.nil)
            go_simp
            have g8 := stored4 (z0 := .int .u64 m0) (z1 := .int .u64 m1) (z2 := .int .u64 m2) (z3 := .int .u64 m3) hZ8
            have hSB := below_stored4 (b := B8) (z0 := .int .u64 m0) (z1 := .int .u64 m1) (z2 := .int .u64 m2) (z3 := .int .u64 m3) hS hL8
            have o9 := (other4 (b := B8) (c := B9) (z0 := .int .u64 m0) (z1 := .int .u64 m1) (z2 := .int .u64 m2) (z3 := .int .u64 m3) (by first | exact hN98 | exact (hN98).symm | exact hN89 | exact (hN89).symm)).trans hZ9
            clear hZ9
            have hZ9 := o9
            clear o9
            generalize ((((U16.setCell ⟨B8, 0, none⟩ (.int .u64 m0)).setCell ⟨B8, 1, none⟩ (.int .u64 m1)).setCell ⟨B8, 2, none⟩ (.int .u64 m2)).setCell ⟨B8, 3, none⟩ (.int .u64 m3)) = U16x at g8 hSB hZ9 ⊢
            refine hK.out _ _ hSB (fun hS => ?_)
            clear hK K hSB a0 a1 a2 a3 fa hZ8
            obtain ⟨a0, a1, a2, a3⟩ := cells4 hZ9
            have fa : ∀ o, U16x.frozen? ⟨B9, o, none⟩ = false := fun o => blk_free hZ9
            refine wpAnyH_ready (rs := [11]) (by kernel_rfl) (by simp) (AllReadyH.cons rfl (fun K hK => ?_) AllReadyH.nil)
            go_simp
            have g9 := stored4 (z0 := .int .u64 d0) (z1 := .int .u64 d1) (z2 := .int .u64 d2) (z3 := .int .u64 d3) hZ9
            have hSB := below_stored4 (b := B9) (z0 := .int .u64 d0) (z1 := .int .u64 d1) (z2 := .int .u64 d2) (z3 := .int .u64 d3) hS hL9
            have o8 := (other4 (b := B9) (c := B8) (z0 := .int .u64 d0) (z1 := .int .u64 d1) (z2 := .int .u64 d2) (z3 := .int .u64 d3) (by first | exact hN89 | exact (hN89).symm | exact hN98 | exact (hN98).symm)).trans g8
            clear g8
            have g8 := o8
            clear o8
            generalize ((((U16x.setCell ⟨B9, 0, none⟩ (.int .u64 d0)).setCell ⟨B9, 1, none⟩ (.int .u64 d1)).setCell ⟨B9, 2, none⟩ (.int .u64 d2)).setCell ⟨B9, 3, none⟩ (.int .u64 d3)) = U16xx at g9 hSB g8 ⊢
            refine hK.out _ _ hSB (fun hS => wpAnyH_done (by kernel_rfl) ?_ _)
            clear hK K
            go_wp2_with fail
            go_meet
            exact ⟨B8, B9, rfl, rfl, g8, g9, hSB⟩
    · go_simp
      obtain ⟨B8, hBe⟩ : ∃ B8, B8 = W0.heap.size := ⟨_, rfl⟩
      have hZ8 : (W0.alloc (.cells #[.int .u64 0, .int .u64 0, .int .u64 0, .int .u64 0] 24)).drew.heap[B8]? = some (.cells #[.int .u64 0, .int .u64 0, .int .u64 0, .int .u64 0] 24 (0, 0)) := by rw [hBe]; exact heap_new _ _
      have hL8 : W0.heap.size ≤ B8 := by rw [hBe]; exact Nat.le_refl _
      have hSA : Below W0.heap.size W0 (W0.alloc (.cells #[.int .u64 0, .int .u64 0, .int .u64 0, .int .u64 0] 24)).drew := ((Below.refl _ W0).alloc (Nat.le_refl _) _).drew
      rw [← hBe]
      have hLT8 : B8 < (W0.alloc (.cells #[.int .u64 0, .int .u64 0, .int .u64 0, .int .u64 0] 24)).drew.heap.size := (Array.getElem?_eq_some_iff.1 hZ8).1
      generalize (W0.alloc (.cells #[.int .u64 0, .int .u64 0, .int .u64 0, .int .u64 0] 24)).drew = U17 at hZ8  hSA hLT8  ⊢
      refine hK.out _ _ hSA (fun hS => ?_)
      clear hK K hSA hBe
      refine wpAnyH_ready (rs := [3, 9]) (by kernel_rfl) (by simp) ?_
      refine AllReadyH.cons rfl (fun K hK => ?_) (AllReadyH.cons rfl (fun K hK => ?_) AllReadyH.nil)
      · go_simp
        refine (Ck1.out _).mono ?_
        rintro e U18 ⟨rfl, hbc⟩
        refine hK.out _ _ (hS.trans (hbc.mono hS.size)) (fun hS => ?_)
        replace hZ8 := (hbc.block B8 (Array.getElem?_eq_some_iff.1 hZ8).1).trans hZ8
        replace hLT8 := (Array.getElem?_eq_some_iff.1 hZ8).1
        clear hK K hbc
        refine wpAnyH_ready (rs := [7, 9]) (by kernel_rfl) (by simp) ?_
        refine AllReadyH.cons rfl (fun K hK => ?_) (AllReadyH.cons rfl (fun K hK => ?_) AllReadyH.nil)
        · go_simp
          refine (Ck2.out _).mono ?_
          rintro e U19 ⟨rfl, hbc⟩
          refine hK.out _ _ (hS.trans (hbc.mono hS.size)) (fun hS => ?_)
          replace hZ8 := (hbc.block B8 (Array.getElem?_eq_some_iff.1 hZ8).1).trans hZ8
          replace hLT8 := (Array.getElem?_eq_some_iff.1 hZ8).1
          clear hK K hbc
          refine wpAnyH_ready (rs := [9]) (by kernel_rfl) (by simp) ?_
          refine AllReadyH.cons rfl (fun K hK => ?_) AllReadyH.nil
          · go_simp
            obtain ⟨B9, hBe⟩ : ∃ B9, B9 = U19.heap.size := ⟨_, rfl⟩
            have hZ9 : (U19.alloc (.cells #[.int .u64 0, .int .u64 0, .int .u64 0, .int .u64 0] 24)).heap[B9]? = some (.cells #[.int .u64 0, .int .u64 0, .int .u64 0, .int .u64 0] 24 (0, 0)) := by rw [hBe]; exact heap_new _ _
            have hL9 : W0.heap.size ≤ B9 := by rw [hBe]; exact hS.size
            have hSA : Below W0.heap.size W0 (U19.alloc (.cells #[.int .u64 0, .int .u64 0, .int .u64 0, .int .u64 0] 24)) := hS.alloc hS.size _
            have hY8 : (U19.alloc (.cells #[.int .u64 0, .int .u64 0, .int .u64 0, .int .u64 0] 24)).heap[B8]? = _ := (heap_old _ _ (Array.getElem?_eq_some_iff.1 hZ8).1).trans hZ8
            clear hZ8
            have hZ8 := hY8
            clear hY8
            have hN98 : B8 ≠ B9 := by rw [hBe]; exact Nat.ne_of_lt (hLT8)
            rw [← hBe]
            have hLT9 : B9 < (U19.alloc (.cells #[.int .u64 0, .int .u64 0, .int .u64 0, .int .u64 0] 24)).heap.size := (Array.getElem?_eq_some_iff.1 hZ9).1
            have hQ8 : B8 < (U19.alloc (.cells #[.int .u64 0, .int .u64 0, .int .u64 0, .int .u64 0] 24)).heap.size := (Array.getElem?_eq_some_iff.1 hZ8).1
            clear hLT8
            have hLT8 := hQ8
            clear hQ8
            generalize (U19.alloc (.cells #[.int .u64 0, .int .u64 0, .int .u64 0, .int .u64 0] 24)) = U20 at hZ9 hZ8 hSA hLT9 hLT8 ⊢
            refine hK.out _ _ hSA (fun hS => ?_)
            clear hK K hSA hBe
            obtain ⟨a0, a1, a2, a3⟩ := cells4 hZ8
            have fa : ∀ o, U20.frozen? ⟨B8, o, none⟩ = false := fun o => blk_free hZ8
            refine wpAnyH_ready (rs := [10]) (by kernel_rfl) (by simp) (AllReadyH.cons rfl (fun K hK => ?_) AllReadyH.nil)
            go_simp
            have g8 := stored4 (z0 := .int .u64 m0) (z1 := .int .u64 m1) (z2 := .int .u64 m2) (z3 := .int .u64 m3) hZ8
            have hSB := below_stored4 (b := B8) (z0 := .int .u64 m0) (z1 := .int .u64 m1) (z2 := .int .u64 m2) (z3 := .int .u64 m3) hS hL8
            have o9 := (other4 (b := B8) (c := B9) (z0 := .int .u64 m0) (z1 := .int .u64 m1) (z2 := .int .u64 m2) (z3 := .int .u64 m3) (by first | exact hN98 | exact (hN98).symm | exact hN89 | exact (hN89).symm)).trans hZ9
            clear hZ9
            have hZ9 := o9
            clear o9
            generalize ((((U20.setCell ⟨B8, 0, none⟩ (.int .u64 m0)).setCell ⟨B8, 1, none⟩ (.int .u64 m1)).setCell ⟨B8, 2, none⟩ (.int .u64 m2)).setCell ⟨B8, 3, none⟩ (.int .u64 m3)) = U20x at g8 hSB hZ9 ⊢
            refine hK.out _ _ hSB (fun hS => ?_)
            clear hK K hSB a0 a1 a2 a3 fa hZ8
            obtain ⟨a0, a1, a2, a3⟩ := cells4 hZ9
            have fa : ∀ o, U20x.frozen? ⟨B9, o, none⟩ = false := fun o => blk_free hZ9
            refine wpAnyH_ready (rs := [11]) (by kernel_rfl) (by simp) (AllReadyH.cons rfl (fun K hK => ?_) AllReadyH.nil)
            go_simp
            have g9 := stored4 (z0 := .int .u64 d0) (z1 := .int .u64 d1) (z2 := .int .u64 d2) (z3 := .int .u64 d3) hZ9
            have hSB := below_stored4 (b := B9) (z0 := .int .u64 d0) (z1 := .int .u64 d1) (z2 := .int .u64 d2) (z3 := .int .u64 d3) hS hL9
            have o8 := (other4 (b := B9) (c := B8) (z0 := .int .u64 d0) (z1 := .int .u64 d1) (z2 := .int .u64 d2) (z3 := .int .u64 d3) (by first | exact hN89 | exact (hN89).symm | exact hN98 | exact (hN98).symm)).trans g8
            clear g8
            have g8 := o8
            clear o8
            generalize ((((U20x.setCell ⟨B9, 0, none⟩ (.int .u64 d0)).setCell ⟨B9, 1, none⟩ (.int .u64 d1)).setCell ⟨B9, 2, none⟩ (.int .u64 d2)).setCell ⟨B9, 3, none⟩ (.int .u64 d3)) = U20xx at g9 hSB g8 ⊢
            refine hK.out _ _ hSB (fun hS => wpAnyH_done (by kernel_rfl) ?_ _)
            clear hK K
            go_wp2_with fail
            go_meet
            exact ⟨B8, B9, rfl, rfl, g8, g9, hSB⟩
        · go_simp
          obtain ⟨B9, hBe⟩ : ∃ B9, B9 = U18.heap.size := ⟨_, rfl⟩
          have hZ9 : (U18.alloc (.cells #[.int .u64 0, .int .u64 0, .int .u64 0, .int .u64 0] 24)).heap[B9]? = some (.cells #[.int .u64 0, .int .u64 0, .int .u64 0, .int .u64 0] 24 (0, 0)) := by rw [hBe]; exact heap_new _ _
          have hL9 : W0.heap.size ≤ B9 := by rw [hBe]; exact hS.size
          have hSA : Below W0.heap.size W0 (U18.alloc (.cells #[.int .u64 0, .int .u64 0, .int .u64 0, .int .u64 0] 24)) := hS.alloc hS.size _
          have hY8 : (U18.alloc (.cells #[.int .u64 0, .int .u64 0, .int .u64 0, .int .u64 0] 24)).heap[B8]? = _ := (heap_old _ _ (Array.getElem?_eq_some_iff.1 hZ8).1).trans hZ8
          clear hZ8
          have hZ8 := hY8
          clear hY8
          have hN98 : B8 ≠ B9 := by rw [hBe]; exact Nat.ne_of_lt (hLT8)
          rw [← hBe]
          have hLT9 : B9 < (U18.alloc (.cells #[.int .u64 0, .int .u64 0, .int .u64 0, .int .u64 0] 24)).heap.size := (Array.getElem?_eq_some_iff.1 hZ9).1
          have hQ8 : B8 < (U18.alloc (.cells #[.int .u64 0, .int .u64 0, .int .u64 0, .int .u64 0] 24)).heap.size := (Array.getElem?_eq_some_iff.1 hZ8).1
          clear hLT8
          have hLT8 := hQ8
          clear hQ8
          generalize (U18.alloc (.cells #[.int .u64 0, .int .u64 0, .int .u64 0, .int .u64 0] 24)) = U21 at hZ9 hZ8 hSA hLT9 hLT8 ⊢
          refine hK.out _ _ hSA (fun hS => ?_)
          clear hK K hSA hBe
          refine wpAnyH_ready (rs := [7]) (by kernel_rfl) (by simp) ?_
          refine AllReadyH.cons rfl (fun K hK => ?_) AllReadyH.nil
          · go_simp
            refine (Ck2.out _).mono ?_
            rintro e U22 ⟨rfl, hbc⟩
            refine hK.out _ _ (hS.trans (hbc.mono hS.size)) (fun hS => ?_)
            replace hZ8 := (hbc.block B8 (Array.getElem?_eq_some_iff.1 hZ8).1).trans hZ8
            replace hLT8 := (Array.getElem?_eq_some_iff.1 hZ8).1
            replace hZ9 := (hbc.block B9 (Array.getElem?_eq_some_iff.1 hZ9).1).trans hZ9
            replace hLT9 := (Array.getElem?_eq_some_iff.1 hZ9).1
            clear hK K hbc
            obtain ⟨a0, a1, a2, a3⟩ := cells4 hZ8
            have fa : ∀ o, U22.frozen? ⟨B8, o, none⟩ = false := fun o => blk_free hZ8
            refine wpAnyH_ready (rs := [10]) (by kernel_rfl) (by simp) (AllReadyH.cons rfl (fun K hK => ?_) AllReadyH.nil)
            go_simp
            have g8 := stored4 (z0 := .int .u64 m0) (z1 := .int .u64 m1) (z2 := .int .u64 m2) (z3 := .int .u64 m3) hZ8
            have hSB := below_stored4 (b := B8) (z0 := .int .u64 m0) (z1 := .int .u64 m1) (z2 := .int .u64 m2) (z3 := .int .u64 m3) hS hL8
            have o9 := (other4 (b := B8) (c := B9) (z0 := .int .u64 m0) (z1 := .int .u64 m1) (z2 := .int .u64 m2) (z3 := .int .u64 m3) (by first | exact hN98 | exact (hN98).symm | exact hN89 | exact (hN89).symm)).trans hZ9
            clear hZ9
            have hZ9 := o9
            clear o9
            generalize ((((U22.setCell ⟨B8, 0, none⟩ (.int .u64 m0)).setCell ⟨B8, 1, none⟩ (.int .u64 m1)).setCell ⟨B8, 2, none⟩ (.int .u64 m2)).setCell ⟨B8, 3, none⟩ (.int .u64 m3)) = U22x at g8 hSB hZ9 ⊢
            refine hK.out _ _ hSB (fun hS => ?_)
            clear hK K hSB a0 a1 a2 a3 fa hZ8
            obtain ⟨a0, a1, a2, a3⟩ := cells4 hZ9
            have fa : ∀ o, U22x.frozen? ⟨B9, o, none⟩ = false := fun o => blk_free hZ9
            refine wpAnyH_ready (rs := [11]) (by kernel_rfl) (by simp) (AllReadyH.cons rfl (fun K hK => ?_) AllReadyH.nil)
            go_simp
            have g9 := stored4 (z0 := .int .u64 d0) (z1 := .int .u64 d1) (z2 := .int .u64 d2) (z3 := .int .u64 d3) hZ9
            have hSB := below_stored4 (b := B9) (z0 := .int .u64 d0) (z1 := .int .u64 d1) (z2 := .int .u64 d2) (z3 := .int .u64 d3) hS hL9
            have o8 := (other4 (b := B9) (c := B8) (z0 := .int .u64 d0) (z1 := .int .u64 d1) (z2 := .int .u64 d2) (z3 := .int .u64 d3) (by first | exact hN89 | exact (hN89).symm | exact hN98 | exact (hN98).symm)).trans g8
            clear g8
            have g8 := o8
            clear o8
            generalize ((((U22x.setCell ⟨B9, 0, none⟩ (.int .u64 d0)).setCell ⟨B9, 1, none⟩ (.int .u64 d1)).setCell ⟨B9, 2, none⟩ (.int .u64 d2)).setCell ⟨B9, 3, none⟩ (.int .u64 d3)) = U22xx at g9 hSB g8 ⊢
            refine hK.out _ _ hSB (fun hS => wpAnyH_done (by kernel_rfl) ?_ _)
            clear hK K
            go_wp2_with fail
            go_meet
            exact ⟨B8, B9, rfl, rfl, g8, g9, hSB⟩
      · go_simp
        obtain ⟨B9, hBe⟩ : ∃ B9, B9 = U17.heap.size := ⟨_, rfl⟩
        have hZ9 : (U17.alloc (.cells #[.int .u64 0, .int .u64 0, .int .u64 0, .int .u64 0] 24)).heap[B9]? = some (.cells #[.int .u64 0, .int .u64 0, .int .u64 0, .int .u64 0] 24 (0, 0)) := by rw [hBe]; exact heap_new _ _
        have hL9 : W0.heap.size ≤ B9 := by rw [hBe]; exact hS.size
        have hSA : Below W0.heap.size W0 (U17.alloc (.cells #[.int .u64 0, .int .u64 0, .int .u64 0, .int .u64 0] 24)) := hS.alloc hS.size _
        have hY8 : (U17.alloc (.cells #[.int .u64 0, .int .u64 0, .int .u64 0, .int .u64 0] 24)).heap[B8]? = _ := (heap_old _ _ (Array.getElem?_eq_some_iff.1 hZ8).1).trans hZ8
        clear hZ8
        have hZ8 := hY8
        clear hY8
        have hN98 : B8 ≠ B9 := by rw [hBe]; exact Nat.ne_of_lt (hLT8)
        rw [← hBe]
        have hLT9 : B9 < (U17.alloc (.cells #[.int .u64 0, .int .u64 0, .int .u64 0, .int .u64 0] 24)).heap.size := (Array.getElem?_eq_some_iff.1 hZ9).1
        have hQ8 : B8 < (U17.alloc (.cells #[.int .u64 0, .int .u64 0, .int .u64 0, .int .u64 0] 24)).heap.size := (Array.getElem?_eq_some_iff.1 hZ8).1
        clear hLT8
        have hLT8 := hQ8
        clear hQ8
        generalize (U17.alloc (.cells #[.int .u64 0, .int .u64 0, .int .u64 0, .int .u64 0] 24)) = U23 at hZ9 hZ8 hSA hLT9 hLT8 ⊢
        refine hK.out _ _ hSA (fun hS => ?_)
        clear hK K hSA hBe
        refine wpAnyH_ready (rs := [3]) (by kernel_rfl) (by simp) ?_
        refine AllReadyH.cons rfl (fun K hK => ?_) AllReadyH.nil
        · go_simp
          refine (Ck1.out _).mono ?_
          rintro e U24 ⟨rfl, hbc⟩
          refine hK.out _ _ (hS.trans (hbc.mono hS.size)) (fun hS => ?_)
          replace hZ8 := (hbc.block B8 (Array.getElem?_eq_some_iff.1 hZ8).1).trans hZ8
          replace hLT8 := (Array.getElem?_eq_some_iff.1 hZ8).1
          replace hZ9 := (hbc.block B9 (Array.getElem?_eq_some_iff.1 hZ9).1).trans hZ9
          replace hLT9 := (Array.getElem?_eq_some_iff.1 hZ9).1
          clear hK K hbc
          refine wpAnyH_ready (rs := [7]) (by kernel_rfl) (by simp) ?_
          refine AllReadyH.cons rfl (fun K hK => ?_) AllReadyH.nil
          · go_simp
            refine (Ck2.out _).mono ?_
            rintro e U25 ⟨rfl, hbc⟩
            refine hK.out _ _ (hS.trans (hbc.mono hS.size)) (fun hS => ?_)
            replace hZ8 := (hbc.block B8 (Array.getElem?_eq_some_iff.1 hZ8).1).trans hZ8
            replace hLT8 := (Array.getElem?_eq_some_iff.1 hZ8).1
            replace hZ9 := (hbc.block B9 (Array.getElem?_eq_some_iff.1 hZ9).1).trans hZ9
            replace hLT9 := (Array.getElem?_eq_some_iff.1 hZ9).1
            clear hK K hbc
            obtain ⟨a0, a1, a2, a3⟩ := cells4 hZ8
            have fa : ∀ o, U25.frozen? ⟨B8, o, none⟩ = false := fun o => blk_free hZ8
            refine wpAnyH_ready (rs := [10]) (by kernel_rfl) (by simp) (AllReadyH.cons rfl (fun K hK => ?_) AllReadyH.nil)
            go_simp
            have g8 := stored4 (z0 := .int .u64 m0) (z1 := .int .u64 m1) (z2 := .int .u64 m2) (z3 := .int .u64 m3) hZ8
            have hSB := below_stored4 (b := B8) (z0 := .int .u64 m0) (z1 := .int .u64 m1) (z2 := .int .u64 m2) (z3 := .int .u64 m3) hS hL8
            have o9 := (other4 (b := B8) (c := B9) (z0 := .int .u64 m0) (z1 := .int .u64 m1) (z2 := .int .u64 m2) (z3 := .int .u64 m3) (by first | exact hN98 | exact (hN98).symm | exact hN89 | exact (hN89).symm)).trans hZ9
            clear hZ9
            have hZ9 := o9
            clear o9
            generalize ((((U25.setCell ⟨B8, 0, none⟩ (.int .u64 m0)).setCell ⟨B8, 1, none⟩ (.int .u64 m1)).setCell ⟨B8, 2, none⟩ (.int .u64 m2)).setCell ⟨B8, 3, none⟩ (.int .u64 m3)) = U25x at g8 hSB hZ9 ⊢
            refine hK.out _ _ hSB (fun hS => ?_)
            clear hK K hSB a0 a1 a2 a3 fa hZ8
            obtain ⟨a0, a1, a2, a3⟩ := cells4 hZ9
            have fa : ∀ o, U25x.frozen? ⟨B9, o, none⟩ = false := fun o => blk_free hZ9
            refine wpAnyH_ready (rs := [11]) (by kernel_rfl) (by simp) (AllReadyH.cons rfl (fun K hK => ?_) AllReadyH.nil)
            go_simp
            have g9 := stored4 (z0 := .int .u64 d0) (z1 := .int .u64 d1) (z2 := .int .u64 d2) (z3 := .int .u64 d3) hZ9
            have hSB := below_stored4 (b := B9) (z0 := .int .u64 d0) (z1 := .int .u64 d1) (z2 := .int .u64 d2) (z3 := .int .u64 d3) hS hL9
            have o8 := (other4 (b := B9) (c := B8) (z0 := .int .u64 d0) (z1 := .int .u64 d1) (z2 := .int .u64 d2) (z3 := .int .u64 d3) (by first | exact hN89 | exact (hN89).symm | exact hN98 | exact (hN98).symm)).trans g8
            clear g8
            have g8 := o8
            clear o8
            generalize ((((U25x.setCell ⟨B9, 0, none⟩ (.int .u64 d0)).setCell ⟨B9, 1, none⟩ (.int .u64 d1)).setCell ⟨B9, 2, none⟩ (.int .u64 d2)).setCell ⟨B9, 3, none⟩ (.int .u64 d3)) = U25xx at g9 hSB g8 ⊢
            refine hK.out _ _ hSB (fun hS => wpAnyH_done (by kernel_rfl) ?_ _)
            clear hK K
            go_wp2_with fail
            go_meet
            exact ⟨B8, B9, rfl, rfl, g8, g9, hSB⟩
    · go_simp
      obtain ⟨B9, hBe⟩ : ∃ B9, B9 = W0.heap.size := ⟨_, rfl⟩
      have hZ9 : (W0.alloc (.cells #[.int .u64 0, .int .u64 0, .int .u64 0, .int .u64 0] 24)).drew.heap[B9]? = some (.cells #[.int .u64 0, .int .u64 0, .int .u64 0, .int .u64 0] 24 (0, 0)) := by rw [hBe]; exact heap_new _ _
      have hL9 : W0.heap.size ≤ B9 := by rw [hBe]; exact Nat.le_refl _
      have hSA : Below W0.heap.size W0 (W0.alloc (.cells #[.int .u64 0, .int .u64 0, .int .u64 0, .int .u64 0] 24)).drew := ((Below.refl _ W0).alloc (Nat.le_refl _) _).drew
      rw [← hBe]
      have hLT9 : B9 < (W0.alloc (.cells #[.int .u64 0, .int .u64 0, .int .u64 0, .int .u64 0] 24)).drew.heap.size := (Array.getElem?_eq_some_iff.1 hZ9).1
      generalize (W0.alloc (.cells #[.int .u64 0, .int .u64 0, .int .u64 0, .int .u64 0] 24)).drew = U26 at hZ9  hSA hLT9  ⊢
      refine hK.out _ _ hSA (fun hS => ?_)
      clear hK K hSA hBe
      refine wpAnyH_ready (rs := [3, 8]) (by kernel_rfl) (by simp) ?_
      refine AllReadyH.cons rfl (fun K hK => ?_) (AllReadyH.cons rfl (fun K hK => ?_) AllReadyH.nil)
      · go_simp
        refine (Ck1.out _).mono ?_
        rintro e U27 ⟨rfl, hbc⟩
        refine hK.out _ _ (hS.trans (hbc.mono hS.size)) (fun hS => ?_)
        replace hZ9 := (hbc.block B9 (Array.getElem?_eq_some_iff.1 hZ9).1).trans hZ9
        replace hLT9 := (Array.getElem?_eq_some_iff.1 hZ9).1
        clear hK K hbc
        refine wpAnyH_ready (rs := [7, 8]) (by kernel_rfl) (by simp) ?_
        refine AllReadyH.cons rfl (fun K hK => ?_) (AllReadyH.cons rfl (fun K hK => ?_) AllReadyH.nil)
        · go_simp
          refine (Ck2.out _).mono ?_
          rintro e U28 ⟨rfl, hbc⟩
          refine hK.out _ _ (hS.trans (hbc.mono hS.size)) (fun hS => ?_)
          replace hZ9 := (hbc.block B9 (Array.getElem?_eq_some_iff.1 hZ9).1).trans hZ9
          replace hLT9 := (Array.getElem?_eq_some_iff.1 hZ9).1
          clear hK K hbc
          refine wpAnyH_ready (rs := [8]) (by kernel_rfl) (by simp) ?_
          refine AllReadyH.cons rfl (fun K hK => ?_) AllReadyH.nil
          · go_simp
            obtain ⟨B8, hBe⟩ : ∃ B8, B8 = U28.heap.size := ⟨_, rfl⟩
            have hZ8 : (U28.alloc (.cells #[.int .u64 0, .int .u64 0, .int .u64 0, .int .u64 0] 24)).heap[B8]? = some (.cells #[.int .u64 0, .int .u64 0, .int .u64 0, .int .u64 0] 24 (0, 0)) := by rw [hBe]; exact heap_new _ _
            have hL8 : W0.heap.size ≤ B8 := by rw [hBe]; exact hS.size
            have hSA : Below W0.heap.size W0 (U28.alloc (.cells #[.int .u64 0, .int .u64 0, .int .u64 0, .int .u64 0] 24)) := hS.alloc hS.size _
            have hY9 : (U28.alloc (.cells #[.int .u64 0, .int .u64 0, .int .u64 0, .int .u64 0] 24)).heap[B9]? = _ := (heap_old _ _ (Array.getElem?_eq_some_iff.1 hZ9).1).trans hZ9
            clear hZ9
            have hZ9 := hY9
            clear hY9
            have hN89 : B9 ≠ B8 := by rw [hBe]; exact Nat.ne_of_lt (hLT9)
            rw [← hBe]
            have hLT8 : B8 < (U28.alloc (.cells #[.int .u64 0, .int .u64 0, .int .u64 0, .int .u64 0] 24)).heap.size := (Array.getElem?_eq_some_iff.1 hZ8).1
            have hQ9 : B9 < (U28.alloc (.cells #[.int .u64 0, .int .u64 0, .int .u64 0, .int .u64 0] 24)).heap.size := (Array.getElem?_eq_some_iff.1 hZ9).1
            clear hLT9
            have hLT9 := hQ9
            clear hQ9
            generalize (U28.alloc (.cells #[.int .u64 0, .int .u64 0, .int .u64 0, .int .u64 0] 24)) = U29 at hZ8 hZ9 hSA hLT8 hLT9 ⊢
            refine hK.out _ _ hSA (fun hS => ?_)
            clear hK K hSA hBe
            obtain ⟨a0, a1, a2, a3⟩ := cells4 hZ8
            have fa : ∀ o, U29.frozen? ⟨B8, o, none⟩ = false := fun o => blk_free hZ8
            refine wpAnyH_ready (rs := [10]) (by kernel_rfl) (by simp) (AllReadyH.cons rfl (fun K hK => ?_) AllReadyH.nil)
            go_simp
            have g8 := stored4 (z0 := .int .u64 m0) (z1 := .int .u64 m1) (z2 := .int .u64 m2) (z3 := .int .u64 m3) hZ8
            have hSB := below_stored4 (b := B8) (z0 := .int .u64 m0) (z1 := .int .u64 m1) (z2 := .int .u64 m2) (z3 := .int .u64 m3) hS hL8
            have o9 := (other4 (b := B8) (c := B9) (z0 := .int .u64 m0) (z1 := .int .u64 m1) (z2 := .int .u64 m2) (z3 := .int .u64 m3) (by first | exact hN98 | exact (hN98).symm | exact hN89 | exact (hN89).symm)).trans hZ9
            clear hZ9
            have hZ9 := o9
            clear o9
            generalize ((((U29.setCell ⟨B8, 0, none⟩ (.int .u64 m0)).setCell ⟨B8, 1, none⟩ (.int .u64 m1)).setCell ⟨B8, 2, none⟩ (.int .u64 m2)).setCell ⟨B8, 3, none⟩ (.int .u64 m3)) = U29x at g8 hSB hZ9 ⊢
            refine hK.out _ _ hSB (fun hS => ?_)
            clear hK K hSB a0 a1 a2 a3 fa hZ8
            obtain ⟨a0, a1, a2, a3⟩ := cells4 hZ9
            have fa : ∀ o, U29x.frozen? ⟨B9, o, none⟩ = false := fun o => blk_free hZ9
            refine wpAnyH_ready (rs := [11]) (by kernel_rfl) (by simp) (AllReadyH.cons rfl (fun K hK => ?_) AllReadyH.nil)
            go_simp
            have g9 := stored4 (z0 := .int .u64 d0) (z1 := .int .u64 d1) (z2 := .int .u64 d2) (z3 := .int .u64 d3) hZ9
            have hSB := below_stored4 (b := B9) (z0 := .int .u64 d0) (z1 := .int .u64 d1) (z2 := .int .u64 d2) (z3 := .int .u64 d3) hS hL9
            have o8 := (other4 (b := B9) (c := B8) (z0 := .int .u64 d0) (z1 := .int .u64 d1) (z2 := .int .u64 d2) (z3 := .int .u64 d3) (by first | exact hN89 | exact (hN89).symm | exact hN98 | exact (hN98).symm)).trans g8
            clear g8
            have g8 := o8
            clear o8
            generalize ((((U29x.setCell ⟨B9, 0, none⟩ (.int .u64 d0)).setCell ⟨B9, 1, none⟩ (.int .u64 d1)).setCell ⟨B9, 2, none⟩ (.int .u64 d2)).setCell ⟨B9, 3, none⟩ (.int .u64 d3)) = U29xx at g9 hSB g8 ⊢
            refine hK.out _ _ hSB (fun hS => wpAnyH_done (by kernel_rfl) ?_ _)
            clear hK K
            go_wp2_with fail
            go_meet
            exact ⟨B8, B9, rfl, rfl, g8, g9, hSB⟩
        · go_simp
          obtain ⟨B8, hBe⟩ : ∃ B8, B8 = U27.heap.size := ⟨_, rfl⟩
          have hZ8 : (U27.alloc (.cells #[.int .u64 0, .int .u64 0, .int .u64 0, .int .u64 0] 24)).heap[B8]? = some (.cells #[.int .u64 0, .int .u64 0, .int .u64 0, .int .u64 0] 24 (0, 0)) := by rw [hBe]; exact heap_new _ _
          have hL8 : W0.heap.size ≤ B8 := by rw [hBe]; exact hS.size
          have hSA : Below W0.heap.size W0 (U27.alloc (.cells #[.int .u64 0, .int .u64 0, .int .u64 0, .int .u64 0] 24)) := hS.alloc hS.size _
          have hY9 : (U27.alloc (.cells #[.int .u64 0, .int .u64 0, .int .u64 0, .int .u64 0] 24)).heap[B9]? = _ := (heap_old _ _ (Array.getElem?_eq_some_iff.1 hZ9).1).trans hZ9
          clear hZ9
          have hZ9 := hY9
          clear hY9
          have hN89 : B9 ≠ B8 := by rw [hBe]; exact Nat.ne_of_lt (hLT9)
          rw [← hBe]
          have hLT8 : B8 < (U27.alloc (.cells #[.int .u64 0, .int .u64 0, .int .u64 0, .int .u64 0] 24)).heap.size := (Array.getElem?_eq_some_iff.1 hZ8).1
          have hQ9 : B9 < (U27.alloc (.cells #[.int .u64 0, .int .u64 0, .int .u64 0, .int .u64 0] 24)).heap.size := (Array.getElem?_eq_some_iff.1 hZ9).1
          clear hLT9
          have hLT9 := hQ9
          clear hQ9
          generalize (U27.alloc (.cells #[.int .u64 0, .int .u64 0, .int .u64 0, .int .u64 0] 24)) = U30 at hZ8 hZ9 hSA hLT8 hLT9 ⊢
          refine hK.out _ _ hSA (fun hS => ?_)
          clear hK K hSA hBe
          refine wpAnyH_ready (rs := [7]) (by kernel_rfl) (by simp) ?_
          refine AllReadyH.cons rfl (fun K hK => ?_) AllReadyH.nil
          · go_simp
            refine (Ck2.out _).mono ?_
            rintro e U31 ⟨rfl, hbc⟩
            refine hK.out _ _ (hS.trans (hbc.mono hS.size)) (fun hS => ?_)
            replace hZ9 := (hbc.block B9 (Array.getElem?_eq_some_iff.1 hZ9).1).trans hZ9
            replace hLT9 := (Array.getElem?_eq_some_iff.1 hZ9).1
            replace hZ8 := (hbc.block B8 (Array.getElem?_eq_some_iff.1 hZ8).1).trans hZ8
            replace hLT8 := (Array.getElem?_eq_some_iff.1 hZ8).1
            clear hK K hbc
            obtain ⟨a0, a1, a2, a3⟩ := cells4 hZ8
            have fa : ∀ o, U31.frozen? ⟨B8, o, none⟩ = false := fun o => blk_free hZ8
            refine wpAnyH_ready (rs := [10]) (by kernel_rfl) (by simp) (AllReadyH.cons rfl (fun K hK => ?_) AllReadyH.nil)
            go_simp
            have g8 := stored4 (z0 := .int .u64 m0) (z1 := .int .u64 m1) (z2 := .int .u64 m2) (z3 := .int .u64 m3) hZ8
            have hSB := below_stored4 (b := B8) (z0 := .int .u64 m0) (z1 := .int .u64 m1) (z2 := .int .u64 m2) (z3 := .int .u64 m3) hS hL8
            have o9 := (other4 (b := B8) (c := B9) (z0 := .int .u64 m0) (z1 := .int .u64 m1) (z2 := .int .u64 m2) (z3 := .int .u64 m3) (by first | exact hN98 | exact (hN98).symm | exact hN89 | exact (hN89).symm)).trans hZ9
            clear hZ9
            have hZ9 := o9
            clear o9
            generalize ((((U31.setCell ⟨B8, 0, none⟩ (.int .u64 m0)).setCell ⟨B8, 1, none⟩ (.int .u64 m1)).setCell ⟨B8, 2, none⟩ (.int .u64 m2)).setCell ⟨B8, 3, none⟩ (.int .u64 m3)) = U31x at g8 hSB hZ9 ⊢
            refine hK.out _ _ hSB (fun hS => ?_)
            clear hK K hSB a0 a1 a2 a3 fa hZ8
            obtain ⟨a0, a1, a2, a3⟩ := cells4 hZ9
            have fa : ∀ o, U31x.frozen? ⟨B9, o, none⟩ = false := fun o => blk_free hZ9
            refine wpAnyH_ready (rs := [11]) (by kernel_rfl) (by simp) (AllReadyH.cons rfl (fun K hK => ?_) AllReadyH.nil)
            go_simp
            have g9 := stored4 (z0 := .int .u64 d0) (z1 := .int .u64 d1) (z2 := .int .u64 d2) (z3 := .int .u64 d3) hZ9
            have hSB := below_stored4 (b := B9) (z0 := .int .u64 d0) (z1 := .int .u64 d1) (z2 := .int .u64 d2) (z3 := .int .u64 d3) hS hL9
            have o8 := (other4 (b := B9) (c := B8) (z0 := .int .u64 d0) (z1 := .int .u64 d1) (z2 := .int .u64 d2) (z3 := .int .u64 d3) (by first | exact hN89 | exact (hN89).symm | exact hN98 | exact (hN98).symm)).trans g8
            clear g8
            have g8 := o8
            clear o8
            generalize ((((U31x.setCell ⟨B9, 0, none⟩ (.int .u64 d0)).setCell ⟨B9, 1, none⟩ (.int .u64 d1)).setCell ⟨B9, 2, none⟩ (.int .u64 d2)).setCell ⟨B9, 3, none⟩ (.int .u64 d3)) = U31xx at g9 hSB g8 ⊢
            refine hK.out _ _ hSB (fun hS => wpAnyH_done (by kernel_rfl) ?_ _)
            clear hK K
            go_wp2_with fail
            go_meet
            exact ⟨B8, B9, rfl, rfl, g8, g9, hSB⟩
      · go_simp
        obtain ⟨B8, hBe⟩ : ∃ B8, B8 = U26.heap.size := ⟨_, rfl⟩
        have hZ8 : (U26.alloc (.cells #[.int .u64 0, .int .u64 0, .int .u64 0, .int .u64 0] 24)).heap[B8]? = some (.cells #[.int .u64 0, .int .u64 0, .int .u64 0, .int .u64 0] 24 (0, 0)) := by rw [hBe]; exact heap_new _ _
        have hL8 : W0.heap.size ≤ B8 := by rw [hBe]; exact hS.size
        have hSA : Below W0.heap.size W0 (U26.alloc (.cells #[.int .u64 0, .int .u64 0, .int .u64 0, .int .u64 0] 24)) := hS.alloc hS.size _
        have hY9 : (U26.alloc (.cells #[.int .u64 0, .int .u64 0, .int .u64 0, .int .u64 0] 24)).heap[B9]? = _ := (heap_old _ _ (Array.getElem?_eq_some_iff.1 hZ9).1).trans hZ9
        clear hZ9
        have hZ9 := hY9
        clear hY9
        have hN89 : B9 ≠ B8 := by rw [hBe]; exact Nat.ne_of_lt (hLT9)
        rw [← hBe]
        have hLT8 : B8 < (U26.alloc (.cells #[.int .u64 0, .int .u64 0, .int .u64 0, .int .u64 0] 24)).heap.size := (Array.getElem?_eq_some_iff.1 hZ8).1
        have hQ9 : B9 < (U26.alloc (.cells #[.int .u64 0, .int .u64 0, .int .u64 0, .int .u64 0] 24)).heap.size := (Array.getElem?_eq_some_iff.1 hZ9).1
        clear hLT9
        have hLT9 := hQ9
        clear hQ9
        generalize (U26.alloc (.cells #[.int .u64 0, .int .u64 0, .int .u64 0, .int .u64 0] 24)) = U32 at hZ8 hZ9 hSA hLT8 hLT9 ⊢
        refine hK.out _ _ hSA (fun hS => ?_)
        clear hK K hSA hBe
        refine wpAnyH_ready (rs := [3]) (by kernel_rfl) (by simp) ?_
        refine AllReadyH.cons rfl (fun K hK => ?_) AllReadyH.nil
        · go_simp
          refine (Ck1.out _).mono ?_
          rintro e U33 ⟨rfl, hbc⟩
          refine hK.out _ _ (hS.trans (hbc.mono hS.size)) (fun hS => ?_)
          replace hZ9 := (hbc.block B9 (Array.getElem?_eq_some_iff.1 hZ9).1).trans hZ9
          replace hLT9 := (Array.getElem?_eq_some_iff.1 hZ9).1
          replace hZ8 := (hbc.block B8 (Array.getElem?_eq_some_iff.1 hZ8).1).trans hZ8
          replace hLT8 := (Array.getElem?_eq_some_iff.1 hZ8).1
          clear hK K hbc
          refine wpAnyH_ready (rs := [7]) (by kernel_rfl) (by simp) ?_
          refine AllReadyH.cons rfl (fun K hK => ?_) AllReadyH.nil
          · go_simp
            refine (Ck2.out _).mono ?_
            rintro e U34 ⟨rfl, hbc⟩
            refine hK.out _ _ (hS.trans (hbc.mono hS.size)) (fun hS => ?_)
            replace hZ9 := (hbc.block B9 (Array.getElem?_eq_some_iff.1 hZ9).1).trans hZ9
            replace hLT9 := (Array.getElem?_eq_some_iff.1 hZ9).1
            replace hZ8 := (hbc.block B8 (Array.getElem?_eq_some_iff.1 hZ8).1).trans hZ8
            replace hLT8 := (Array.getElem?_eq_some_iff.1 hZ8).1
            clear hK K hbc
            obtain ⟨a0, a1, a2, a3⟩ := cells4 hZ8
            have fa : ∀ o, U34.frozen? ⟨B8, o, none⟩ = false := fun o => blk_free hZ8
            refine wpAnyH_ready (rs := [10]) (by kernel_rfl) (by simp) (AllReadyH.cons rfl (fun K hK => ?_) AllReadyH.nil)
            go_simp
            have g8 := stored4 (z0 := .int .u64 m0) (z1 := .int .u64 m1) (z2 := .int .u64 m2) (z3 := .int .u64 m3) hZ8
            have hSB := below_stored4 (b := B8) (z0 := .int .u64 m0) (z1 := .int .u64 m1) (z2 := .int .u64 m2) (z3 := .int .u64 m3) hS hL8
            have o9 := (other4 (b := B8) (c := B9) (z0 := .int .u64 m0) (z1 := .int .u64 m1) (z2 := .int .u64 m2) (z3 := .int .u64 m3) (by first | exact hN98 | exact (hN98).symm | exact hN89 | exact (hN89).symm)).trans hZ9
            clear hZ9
            have hZ9 := o9
            clear o9
            generalize ((((U34.setCell ⟨B8, 0, none⟩ (.int .u64 m0)).setCell ⟨B8, 1, none⟩ (.int .u64 m1)).setCell ⟨B8, 2, none⟩ (.int .u64 m2)).setCell ⟨B8, 3, none⟩ (.int .u64 m3)) = U34x at g8 hSB hZ9 ⊢
            refine hK.out _ _ hSB (fun hS => ?_)
            clear hK K hSB a0 a1 a2 a3 fa hZ8
            obtain ⟨a0, a1, a2, a3⟩ := cells4 hZ9
            have fa : ∀ o, U34x.frozen? ⟨B9, o, none⟩ = false := fun o => blk_free hZ9
            refine wpAnyH_ready (rs := [11]) (by kernel_rfl) (by simp) (AllReadyH.cons rfl (fun K hK => ?_) AllReadyH.nil)
            go_simp
            have g9 := stored4 (z0 := .int .u64 d0) (z1 := .int .u64 d1) (z2 := .int .u64 d2) (z3 := .int .u64 d3) hZ9
            have hSB := below_stored4 (b := B9) (z0 := .int .u64 d0) (z1 := .int .u64 d1) (z2 := .int .u64 d2) (z3 := .int .u64 d3) hS hL9
            have o8 := (other4 (b := B9) (c := B8) (z0 := .int .u64 d0) (z1 := .int .u64 d1) (z2 := .int .u64 d2) (z3 := .int .u64 d3) (by first | exact hN89 | exact (hN89).symm | exact hN98 | exact (hN98).symm)).trans g8
            clear g8
            have g8 := o8
            clear o8
            generalize ((((U34x.setCell ⟨B9, 0, none⟩ (.int .u64 d0)).setCell ⟨B9, 1, none⟩ (.int .u64 d1)).setCell ⟨B9, 2, none⟩ (.int .u64 d2)).setCell ⟨B9, 3, none⟩ (.int .u64 d3)) = U34xx at g9 hSB g8 ⊢
            refine hK.out _ _ hSB (fun hS => wpAnyH_done (by kernel_rfl) ?_ _)
            clear hK K
            go_wp2_with fail
            go_meet
            exact ⟨B8, B9, rfl, rfl, g8, g9, hSB⟩
  case rest =>
    clear cx0 cx1 cx2 cx3 hlx
    clear cy0 cy1 cy2 cy3 hly
    clear cn0 cn1 cn2 cn3 hln
    obtain ⟨B, C, rfl, rfl, gm, gd, hbx⟩ := hcut
    rename World => wA
    replace HBx : Hid (wA.heap[w.heap.size]? = some (.cells #[.int .u64 x0, .int .u64 x1, .int .u64 x2, .int .u64 x3] 24 (0, 0))) := (hbx.block _ (Array.getElem?_eq_some_iff.1 HBx.out).1).trans HBx.out
    replace HBy : Hid (wA.heap[w.heap.size + 1]? = some (.cells #[.int .u64 y0, .int .u64 y1, .int .u64 y2, .int .u64 y3] 24 (0, 0))) := (hbx.block _ (Array.getElem?_eq_some_iff.1 HBy.out).1).trans HBy.out
    replace HBn : Hid (wA.heap[w.heap.size + 1 + 1]? = some (.cells #[.int .u64 n0, .int .u64 n1, .int .u64 n2, .int .u64 n3] 24 (0, 0))) := (hbx.block _ (Array.getElem?_eq_some_iff.1 HBn.out).1).trans HBn.out
    replace HBW : Hid (Below w.heap.size w wA) := HBW.out.trans (hbx.mono HBW.out.size)
    have HBm := hideP gm
    have HBd := hideP gd
    clear gm gd hbx
    obtain ⟨hx, hy, hn, hm, hd⟩ := HF.out
    by_cases h0 : N % M256 = 0
    · have hz : wv 0 = .agg #[.int .u64 0, .int .u64 0, .int .u64 0, .int .u64 0] := rfl
      have hr : ∀ A, restN A 0 = 0 := fun A => by unfold restN; rw [if_pos rfl]
      rw [h0, hr, hz] at hm hd
      have hn0 : wv N = wv 0 := wv_congr (by rw [h0]; rfl)
      rw [hn0, hz] at hn
      simp only [Value.agg.injEq, Array.mk.injEq, List.cons.injEq, Value.int.injEq, true_and, and_true] at hm hd hn
      obtain ⟨e0, e1, e2, e3⟩ := hm
      obtain ⟨e4, e5, e6, e7⟩ := hd
      obtain ⟨e8, e9, e10, e11⟩ := hn
      subst e0 e1 e2 e3 e4 e5 e6 e7 e8 e9 e10 e11
      have heq : ∀ W : World, (Op.equalIn 10000 24 (.agg #[.int .u64 0, .int .u64 0, .int .u64 0, .int .u64 0]) (.agg #[.int .u64 0, .int .u64 0, .int .u64 0, .int .u64 0])).run Try.prog W = .ok true W := fun W => eq_wv 0 0 W
      clear hx hy hz hr hn0 h0 Ck1 Ck2 CAW HF
      obtain ⟨cn0, cn1, cn2, cn3⟩ := cells4 HBn.out
      have hln := (Array.getElem?_eq_some_iff.1 HBn.out).1
      obtain ⟨cm0, cm1, cm2, cm3⟩ := cells4 HBm.out
      have hlm := (Array.getElem?_eq_some_iff.1 HBm.out).1
      obtain ⟨cd0, cd1, cd2, cd3⟩ := cells4 HBd.out
      have hld := (Array.getElem?_eq_some_iff.1 HBd.out).1
      go_wp2
      go_ret
      exact ⟨rfl, HBW.out⟩
    · have hN0 : 0 < N % M256 := by omega
      have hNM : N % M256 < M256 := Nat.mod_lt _ M256_pos
      have heq0 := fun W => eq_wv N 0 W
      rw [Nat.zero_mod] at heq0
      simp only [decide_eq_false h0] at heq0
      have hz : wv 0 = .agg #[.int .u64 0, .int .u64 0, .int .u64 0, .int .u64 0] := rfl
      simp only [hn, hz] at heq0
      obtain ⟨u0, u1, u2, u3, hu⟩ := wv_form (restN (X % M256) (N % M256))
      obtain ⟨v0, v1, v2, v3, hv⟩ := wv_form (restN (Y % M256) (N % M256))
      obtain ⟨f0, f1, f2, f3, hf⟩ := wv_form (Y + 1)
      obtain ⟨g0, g1, g2, g3, hg⟩ := wv_form (restN (X % M256 * ((Y + 1) % M256)) (N % M256))
      have hi : wv 1 = .agg #[.int .u64 1, .int .u64 0, .int .u64 0, .int .u64 0] := rfl
      have k3 := fun W => mod_any X N W
      simp only [hx, hn, hu] at k3
      have Ck3 := hideP k3
      clear k3
      have k4 := fun W => mod_any Y N W
      simp only [hy, hn, hv] at k4
      have Ck4 := hideP k4
      clear k4
      have k5 := fun W => cmp_any (restN (X % M256 * (Y % M256)) (N % M256)) N W
      simp only [mo_cmp hN0 hNM] at k5
      simp only [hm, hn] at k5
      have Ck5 := hideP k5
      clear k5
      have k6 := fun W => cmp_any (restN (X % M256 + Y % M256) (N % M256)) N W
      simp only [mo_cmp hN0 hNM] at k6
      simp only [hd, hn] at k6
      have Ck6 := hideP k6
      clear k6
      have k7 := fun W => mulMod_any (restN (X % M256) (N % M256)) (restN (Y % M256) (N % M256)) N W
      simp only [mo_mul hN0 hNM] at k7
      simp only [hu, hv, hn, hm] at k7
      have Ck7 := hideP k7
      clear k7
      have k8 := fun W => addMod_any (restN (X % M256) (N % M256)) (restN (Y % M256) (N % M256)) N W
      simp only [mo_add hN0 hNM] at k8
      simp only [hu, hv, hn, hd] at k8
      have Ck8 := hideP k8
      clear k8
      have k9 := fun W => one_any W
      simp only [hi] at k9
      have Ck9 := hideP k9
      clear k9
      have k10 := fun W => add_any W Y 1
      simp only [hy, hi, hf] at k10
      have Ck10 := hideP k10
      clear k10
      have k11 := fun W => mulMod_any X (Y + 1) N W
      simp only [hx, hf, hn, hg] at k11
      have Ck11 := hideP k11
      clear k11
      have CkN : Hid (∀ W, Calls Try.prog 83 #[.agg #[.int .u64 m0, .int .u64 m1, .int .u64 m2, .int .u64 m3], .agg #[.int .u64 u0, .int .u64 u1, .int .u64 u2, .int .u64 u3], .agg #[.int .u64 n0, .int .u64 n1, .int .u64 n2, .int .u64 n3], .agg #[.int .u64 y0, .int .u64 y1, .int .u64 y2, .int .u64 y3]] W fun e w' => e = .returned (.agg #[.int .u64 g0, .int .u64 g1, .int .u64 g2, .int .u64 g3]) ∧ Below W.heap.size W w') := by
        show ∀ W, _
        intro W
        by_cases hY : Y % M256 = M256 - 1
        · have := next_top (restN (X % M256 * (Y % M256)) (N % M256)) (restN (X % M256) (N % M256)) N Y hY W
          rw [mo_top hN0 hY] at hg
          rw [hm, hu, hn, hy, hg] at this
          exact this
        · have := next_else (restN (X % M256 * (Y % M256)) (N % M256)) (restN (X % M256) (N % M256)) N Y hY W
          rw [← mo_next hN0 hNM hY] at this
          rw [hm, hu, hn, hy, hg] at this
          exact this
      have k12 := fun W => mulMod_any X 1 N W
      simp only [mo_one] at k12
      simp only [hx, hi, hn, hu] at k12
      have Ck12 := hideP k12
      clear k12
      clear hx hy hn hm hd hu hv hf hg hi hz hN0 hNM h0 Ck1 Ck2 CAW HF
      obtain ⟨cn0, cn1, cn2, cn3⟩ := cells4 HBn.out
      have hln := (Array.getElem?_eq_some_iff.1 HBn.out).1
      obtain ⟨cm0, cm1, cm2, cm3⟩ := cells4 HBm.out
      have hlm := (Array.getElem?_eq_some_iff.1 HBm.out).1
      obtain ⟨cd0, cd1, cd2, cd3⟩ := cells4 HBd.out
      have hld := (Array.getElem?_eq_some_iff.1 HBd.out).1
      go_wp2_with fail
      clear heq0
      have eqw := eq_words
      clear cn0 cn1 cn2 cn3 hln
      clear cm0 cm1 cm2 cm3 hlm
      clear cd0 cd1 cd2 cd3 hld
      obtain ⟨cx0, cx1, cx2, cx3⟩ := cells4 HBx.out
      have hlx := (Array.getElem?_eq_some_iff.1 HBx.out).1
      obtain ⟨cy0, cy1, cy2, cy3⟩ := cells4 HBy.out
      have hly := (Array.getElem?_eq_some_iff.1 HBy.out).1
      obtain ⟨cn0, cn1, cn2, cn3⟩ := cells4 HBn.out
      have hln := (Array.getElem?_eq_some_iff.1 HBn.out).1
      go_cut [9, 10] (fun p q wx => ∃ D E : Nat, p = .pointer (some ⟨D, 0, none⟩) ∧ q = .pointer (some ⟨E, 0, none⟩) ∧ wx.heap[D]? = some (.cells #[.int .u64 u0, .int .u64 u1, .int .u64 u2, .int .u64 u3] 24 (0, 0)) ∧ wx.heap[E]? = some (.cells #[.int .u64 v0, .int .u64 v1, .int .u64 v2, .int .u64 v3] 24 (0, 0)) ∧ Below wA.heap.size wA wx)
      case first =>
        refine wp_region_heldS (S := fun V => Below wA.heap.size wA V) (by kernel_rfl) (Below.refl _ _).drew (fun hS => ?_)
        refine wpAnyH_take (i := 0) (v := ?_) rfl (by kernel_rfl) (by kernel_rfl) (by kernel_rfl) (fun _ _ _ h => h) (Or.inl ⟨by kernel_rfl, ?_⟩) hS ?_
        rotate_left
        · intro V hV
          have k0 := (hV.cell (p := ⟨w.heap.size, 0, none⟩) hlx).trans cx0
          have k1 := (hV.cell (p := ⟨w.heap.size, 1, none⟩) hlx).trans cx1
          have k2 := (hV.cell (p := ⟨w.heap.size, 2, none⟩) hlx).trans cx2
          have k3 := (hV.cell (p := ⟨w.heap.size, 3, none⟩) hlx).trans cx3
          go_simp
          (try with_reducible rfl)
        simp only [Act.put, List.setIfInBounds_toArray]
        refine wpAnyH_take (i := 1) (v := ?_) rfl (by kernel_rfl) (by kernel_rfl) (by kernel_rfl) (fun _ _ _ h => h) (Or.inl ⟨by kernel_rfl, ?_⟩) hS ?_
        rotate_left
        · intro V hV
          have k0 := (hV.cell (p := ⟨w.heap.size + 1 + 1, 0, none⟩) hln).trans cn0
          have k1 := (hV.cell (p := ⟨w.heap.size + 1 + 1, 1, none⟩) hln).trans cn1
          have k2 := (hV.cell (p := ⟨w.heap.size + 1 + 1, 2, none⟩) hln).trans cn2
          have k3 := (hV.cell (p := ⟨w.heap.size + 1 + 1, 3, none⟩) hln).trans cn3
          go_simp
          (try with_reducible rfl)
        simp only [Act.put]
        refine wpAnyH_take (i := 3) (v := ?_) rfl (by kernel_rfl) (by kernel_rfl) (by kernel_rfl) (fun _ _ _ h => h) (Or.inl ⟨by kernel_rfl, ?_⟩) hS ?_
        rotate_left
        · intro V hV
          have k0 := (hV.cell (p := ⟨w.heap.size + 1, 0, none⟩) hly).trans cy0
          have k1 := (hV.cell (p := ⟨w.heap.size + 1, 1, none⟩) hly).trans cy1
          have k2 := (hV.cell (p := ⟨w.heap.size + 1, 2, none⟩) hly).trans cy2
          have k3 := (hV.cell (p := ⟨w.heap.size + 1, 3, none⟩) hly).trans cy3
          go_simp
          (try with_reducible rfl)
        simp only [Act.put]
        refine wpAnyH_take (i := 4) (v := ?_) rfl (by kernel_rfl) (by kernel_rfl) (by kernel_rfl) (fun _ _ _ h => h) (Or.inl ⟨by kernel_rfl, ?_⟩) hS ?_
        rotate_left
        · intro V hV
          have k0 := (hV.cell (p := ⟨w.heap.size + 1 + 1, 0, none⟩) hln).trans cn0
          have k1 := (hV.cell (p := ⟨w.heap.size + 1 + 1, 1, none⟩) hln).trans cn1
          have k2 := (hV.cell (p := ⟨w.heap.size + 1 + 1, 2, none⟩) hln).trans cn2
          have k3 := (hV.cell (p := ⟨w.heap.size + 1 + 1, 3, none⟩) hln).trans cn3
          go_simp
          (try with_reducible rfl)
        simp only [Act.put]
        refine wpAnyH_ready (rs := [2, 6, 7]) (by kernel_rfl) (by simp) ?_
        refine AllReadyH.cons rfl (fun K hK => ?_) (AllReadyH.cons rfl (fun K hK => ?_) (AllReadyH.cons rfl (fun K hK => ?_) AllReadyH.nil))
        · go_simp
          refine (Ck3.out _).mono ?_
          rintro e U1 ⟨rfl, hbc⟩
          refine hK.out _ _ (hS.trans (hbc.mono hS.size)) (fun hS => ?_)
          clear hK K hbc
          refine wpAnyH_ready (rs := [5, 6, 7]) (by kernel_rfl) (by simp) ?_
          refine AllReadyH.cons rfl (fun K hK => ?_) (AllReadyH.cons rfl (fun K hK => ?_) (AllReadyH.cons rfl (fun K hK => ?_) AllReadyH.nil))
          · go_simp
            refine (Ck4.out _).mono ?_
            rintro e U2 ⟨rfl, hbc⟩
            refine hK.out _ _ (hS.trans (hbc.mono hS.size)) (fun hS => ?_)
            clear hK K hbc
            refine wpAnyH_ready (rs := [6, 7]) (by kernel_rfl) (by simp) ?_
            refine AllReadyH.cons rfl (fun K hK => ?_) (AllReadyH.cons rfl (fun K hK => ?_) AllReadyH.nil)
            · go_simp
              obtain ⟨B6, hBe⟩ : ∃ B6, B6 = U2.heap.size := ⟨_, rfl⟩
              have hZ6 : (U2.alloc (.cells #[.int .u64 0, .int .u64 0, .int .u64 0, .int .u64 0] 24)).heap[B6]? = some (.cells #[.int .u64 0, .int .u64 0, .int .u64 0, .int .u64 0] 24 (0, 0)) := by rw [hBe]; exact heap_new _ _
              have hL6 : wA.heap.size ≤ B6 := by rw [hBe]; exact hS.size
              have hSA : Below wA.heap.size wA (U2.alloc (.cells #[.int .u64 0, .int .u64 0, .int .u64 0, .int .u64 0] 24)) := hS.alloc hS.size _
              rw [← hBe]
              have hLT6 : B6 < (U2.alloc (.cells #[.int .u64 0, .int .u64 0, .int .u64 0, .int .u64 0] 24)).heap.size := (Array.getElem?_eq_some_iff.1 hZ6).1
              generalize (U2.alloc (.cells #[.int .u64 0, .int .u64 0, .int .u64 0, .int .u64 0] 24)) = U3 at hZ6  hSA hLT6  ⊢
              refine hK.out _ _ hSA (fun hS => ?_)
              clear hK K hSA hBe
              refine wpAnyH_ready (rs := [7]) (by kernel_rfl) (by simp) ?_
              refine AllReadyH.cons rfl (fun K hK => ?_) AllReadyH.nil
              · go_simp
                obtain ⟨B7, hBe⟩ : ∃ B7, B7 = U3.heap.size := ⟨_, rfl⟩
                have hZ7 : (U3.alloc (.cells #[.int .u64 0, .int .u64 0, .int .u64 0, .int .u64 0] 24)).heap[B7]? = some (.cells #[.int .u64 0, .int .u64 0, .int .u64 0, .int .u64 0] 24 (0, 0)) := by rw [hBe]; exact heap_new _ _
                have hL7 : wA.heap.size ≤ B7 := by rw [hBe]; exact hS.size
                have hSA : Below wA.heap.size wA (U3.alloc (.cells #[.int .u64 0, .int .u64 0, .int .u64 0, .int .u64 0] 24)) := hS.alloc hS.size _
                have hY6 : (U3.alloc (.cells #[.int .u64 0, .int .u64 0, .int .u64 0, .int .u64 0] 24)).heap[B6]? = _ := (heap_old _ _ (Array.getElem?_eq_some_iff.1 hZ6).1).trans hZ6
                clear hZ6
                have hZ6 := hY6
                clear hY6
                have hN76 : B6 ≠ B7 := by rw [hBe]; exact Nat.ne_of_lt (hLT6)
                rw [← hBe]
                have hLT7 : B7 < (U3.alloc (.cells #[.int .u64 0, .int .u64 0, .int .u64 0, .int .u64 0] 24)).heap.size := (Array.getElem?_eq_some_iff.1 hZ7).1
                have hQ6 : B6 < (U3.alloc (.cells #[.int .u64 0, .int .u64 0, .int .u64 0, .int .u64 0] 24)).heap.size := (Array.getElem?_eq_some_iff.1 hZ6).1
                clear hLT6
                have hLT6 := hQ6
                clear hQ6
                generalize (U3.alloc (.cells #[.int .u64 0, .int .u64 0, .int .u64 0, .int .u64 0] 24)) = U4 at hZ7 hZ6 hSA hLT7 hLT6 ⊢
                refine hK.out _ _ hSA (fun hS => ?_)
                clear hK K hSA hBe
                obtain ⟨a0, a1, a2, a3⟩ := cells4 hZ6
                have fa : ∀ o, U4.frozen? ⟨B6, o, none⟩ = false := fun o => blk_free hZ6
                refine wpAnyH_ready (rs := [8]) (by kernel_rfl) (by simp) (AllReadyH.cons rfl (fun K hK => ?_) AllReadyH.nil)
                go_simp
                have g6 := stored4 (z0 := .int .u64 u0) (z1 := .int .u64 u1) (z2 := .int .u64 u2) (z3 := .int .u64 u3) hZ6
                have hSB := below_stored4 (b := B6) (z0 := .int .u64 u0) (z1 := .int .u64 u1) (z2 := .int .u64 u2) (z3 := .int .u64 u3) hS hL6
                have o7 := (other4 (b := B6) (c := B7) (z0 := .int .u64 u0) (z1 := .int .u64 u1) (z2 := .int .u64 u2) (z3 := .int .u64 u3) (by first | exact hN76 | exact (hN76).symm | exact hN67 | exact (hN67).symm)).trans hZ7
                clear hZ7
                have hZ7 := o7
                clear o7
                generalize ((((U4.setCell ⟨B6, 0, none⟩ (.int .u64 u0)).setCell ⟨B6, 1, none⟩ (.int .u64 u1)).setCell ⟨B6, 2, none⟩ (.int .u64 u2)).setCell ⟨B6, 3, none⟩ (.int .u64 u3)) = U4x at g6 hSB hZ7 ⊢
                refine hK.out _ _ hSB (fun hS => ?_)
                clear hK K hSB a0 a1 a2 a3 fa hZ6
                obtain ⟨a0, a1, a2, a3⟩ := cells4 hZ7
                have fa : ∀ o, U4x.frozen? ⟨B7, o, none⟩ = false := fun o => blk_free hZ7
                refine wpAnyH_ready (rs := [9]) (by kernel_rfl) (by simp) (AllReadyH.cons rfl (fun K hK => ?_) AllReadyH.nil)
                go_simp
                have g7 := stored4 (z0 := .int .u64 v0) (z1 := .int .u64 v1) (z2 := .int .u64 v2) (z3 := .int .u64 v3) hZ7
                have hSB := below_stored4 (b := B7) (z0 := .int .u64 v0) (z1 := .int .u64 v1) (z2 := .int .u64 v2) (z3 := .int .u64 v3) hS hL7
                have o6 := (other4 (b := B7) (c := B6) (z0 := .int .u64 v0) (z1 := .int .u64 v1) (z2 := .int .u64 v2) (z3 := .int .u64 v3) (by first | exact hN67 | exact (hN67).symm | exact hN76 | exact (hN76).symm)).trans g6
                clear g6
                have g6 := o6
                clear o6
                generalize ((((U4x.setCell ⟨B7, 0, none⟩ (.int .u64 v0)).setCell ⟨B7, 1, none⟩ (.int .u64 v1)).setCell ⟨B7, 2, none⟩ (.int .u64 v2)).setCell ⟨B7, 3, none⟩ (.int .u64 v3)) = U4xx at g7 hSB g6 ⊢
                refine hK.out _ _ hSB (fun hS => wpAnyH_done (by kernel_rfl) ?_ _)
                clear hK K
                go_wp2_with fail
                go_meet
                exact ⟨B6, B7, rfl, rfl, g6, g7, hSB⟩
            · go_simp
              obtain ⟨B7, hBe⟩ : ∃ B7, B7 = U2.heap.size := ⟨_, rfl⟩
              have hZ7 : (U2.alloc (.cells #[.int .u64 0, .int .u64 0, .int .u64 0, .int .u64 0] 24)).heap[B7]? = some (.cells #[.int .u64 0, .int .u64 0, .int .u64 0, .int .u64 0] 24 (0, 0)) := by rw [hBe]; exact heap_new _ _
              have hL7 : wA.heap.size ≤ B7 := by rw [hBe]; exact hS.size
              have hSA : Below wA.heap.size wA (U2.alloc (.cells #[.int .u64 0, .int .u64 0, .int .u64 0, .int .u64 0] 24)) := hS.alloc hS.size _
              rw [← hBe]
              have hLT7 : B7 < (U2.alloc (.cells #[.int .u64 0, .int .u64 0, .int .u64 0, .int .u64 0] 24)).heap.size := (Array.getElem?_eq_some_iff.1 hZ7).1
              generalize (U2.alloc (.cells #[.int .u64 0, .int .u64 0, .int .u64 0, .int .u64 0] 24)) = U5 at hZ7  hSA hLT7  ⊢
              refine hK.out _ _ hSA (fun hS => ?_)
              clear hK K hSA hBe
              refine wpAnyH_ready (rs := [6]) (by kernel_rfl) (by simp) ?_
              refine AllReadyH.cons rfl (fun K hK => ?_) AllReadyH.nil
              · go_simp
                obtain ⟨B6, hBe⟩ : ∃ B6, B6 = U5.heap.size := ⟨_, rfl⟩
                have hZ6 : (U5.alloc (.cells #[.int .u64 0, .int .u64 0, .int .u64 0, .int .u64 0] 24)).heap[B6]? = some (.cells #[.int .u64 0, .int .u64 0, .int .u64 0, .int .u64 0] 24 (0, 0)) := by rw [hBe]; exact heap_new _ _
                have hL6 : wA.heap.size ≤ B6 := by rw [hBe]; exact hS.size
                have hSA : Below wA.heap.size wA (U5.alloc (.cells #[.int .u64 0, .int .u64 0, .int .u64 0, .int .u64 0] 24)) := hS.alloc hS.size _
                have hY7 : (U5.alloc (.cells #[.int .u64 0, .int .u64 0, .int .u64 0, .int .u64 0] 24)).heap[B7]? = _ := (heap_old _ _ (Array.getElem?_eq_some_iff.1 hZ7).1).trans hZ7
                clear hZ7
                have hZ7 := hY7
                clear hY7
                have hN67 : B7 ≠ B6 := by rw [hBe]; exact Nat.ne_of_lt (hLT7)
                rw [← hBe]
                have hLT6 : B6 < (U5.alloc (.cells #[.int .u64 0, .int .u64 0, .int .u64 0, .int .u64 0] 24)).heap.size := (Array.getElem?_eq_some_iff.1 hZ6).1
                have hQ7 : B7 < (U5.alloc (.cells #[.int .u64 0, .int .u64 0, .int .u64 0, .int .u64 0] 24)).heap.size := (Array.getElem?_eq_some_iff.1 hZ7).1
                clear hLT7
                have hLT7 := hQ7
                clear hQ7
                generalize (U5.alloc (.cells #[.int .u64 0, .int .u64 0, .int .u64 0, .int .u64 0] 24)) = U6 at hZ6 hZ7 hSA hLT6 hLT7 ⊢
                refine hK.out _ _ hSA (fun hS => ?_)
                clear hK K hSA hBe
                obtain ⟨a0, a1, a2, a3⟩ := cells4 hZ6
                have fa : ∀ o, U6.frozen? ⟨B6, o, none⟩ = false := fun o => blk_free hZ6
                refine wpAnyH_ready (rs := [8]) (by kernel_rfl) (by simp) (AllReadyH.cons rfl (fun K hK => ?_) AllReadyH.nil)
                go_simp
                have g6 := stored4 (z0 := .int .u64 u0) (z1 := .int .u64 u1) (z2 := .int .u64 u2) (z3 := .int .u64 u3) hZ6
                have hSB := below_stored4 (b := B6) (z0 := .int .u64 u0) (z1 := .int .u64 u1) (z2 := .int .u64 u2) (z3 := .int .u64 u3) hS hL6
                have o7 := (other4 (b := B6) (c := B7) (z0 := .int .u64 u0) (z1 := .int .u64 u1) (z2 := .int .u64 u2) (z3 := .int .u64 u3) (by first | exact hN76 | exact (hN76).symm | exact hN67 | exact (hN67).symm)).trans hZ7
                clear hZ7
                have hZ7 := o7
                clear o7
                generalize ((((U6.setCell ⟨B6, 0, none⟩ (.int .u64 u0)).setCell ⟨B6, 1, none⟩ (.int .u64 u1)).setCell ⟨B6, 2, none⟩ (.int .u64 u2)).setCell ⟨B6, 3, none⟩ (.int .u64 u3)) = U6x at g6 hSB hZ7 ⊢
                refine hK.out _ _ hSB (fun hS => ?_)
                clear hK K hSB a0 a1 a2 a3 fa hZ6
                obtain ⟨a0, a1, a2, a3⟩ := cells4 hZ7
                have fa : ∀ o, U6x.frozen? ⟨B7, o, none⟩ = false := fun o => blk_free hZ7
                refine wpAnyH_ready (rs := [9]) (by kernel_rfl) (by simp) (AllReadyH.cons rfl (fun K hK => ?_) AllReadyH.nil)
                go_simp
                have g7 := stored4 (z0 := .int .u64 v0) (z1 := .int .u64 v1) (z2 := .int .u64 v2) (z3 := .int .u64 v3) hZ7
                have hSB := below_stored4 (b := B7) (z0 := .int .u64 v0) (z1 := .int .u64 v1) (z2 := .int .u64 v2) (z3 := .int .u64 v3) hS hL7
                have o6 := (other4 (b := B7) (c := B6) (z0 := .int .u64 v0) (z1 := .int .u64 v1) (z2 := .int .u64 v2) (z3 := .int .u64 v3) (by first | exact hN67 | exact (hN67).symm | exact hN76 | exact (hN76).symm)).trans g6
                clear g6
                have g6 := o6
                clear o6
                generalize ((((U6x.setCell ⟨B7, 0, none⟩ (.int .u64 v0)).setCell ⟨B7, 1, none⟩ (.int .u64 v1)).setCell ⟨B7, 2, none⟩ (.int .u64 v2)).setCell ⟨B7, 3, none⟩ (.int .u64 v3)) = U6xx at g7 hSB g6 ⊢
                refine hK.out _ _ hSB (fun hS => wpAnyH_done (by kernel_rfl) ?_ _)
                clear hK K
                go_wp2_with fail
                go_meet
                exact ⟨B6, B7, rfl, rfl, g6, g7, hSB⟩
          · go_simp
            obtain ⟨B6, hBe⟩ : ∃ B6, B6 = U1.heap.size := ⟨_, rfl⟩
            have hZ6 : (U1.alloc (.cells #[.int .u64 0, .int .u64 0, .int .u64 0, .int .u64 0] 24)).heap[B6]? = some (.cells #[.int .u64 0, .int .u64 0, .int .u64 0, .int .u64 0] 24 (0, 0)) := by rw [hBe]; exact heap_new _ _
            have hL6 : wA.heap.size ≤ B6 := by rw [hBe]; exact hS.size
            have hSA : Below wA.heap.size wA (U1.alloc (.cells #[.int .u64 0, .int .u64 0, .int .u64 0, .int .u64 0] 24)) := hS.alloc hS.size _
            rw [← hBe]
            have hLT6 : B6 < (U1.alloc (.cells #[.int .u64 0, .int .u64 0, .int .u64 0, .int .u64 0] 24)).heap.size := (Array.getElem?_eq_some_iff.1 hZ6).1
            generalize (U1.alloc (.cells #[.int .u64 0, .int .u64 0, .int .u64 0, .int .u64 0] 24)) = U7 at hZ6  hSA hLT6  ⊢
            refine hK.out _ _ hSA (fun hS => ?_)
            clear hK K hSA hBe
            refine wpAnyH_ready (rs := [5, 7]) (by kernel_rfl) (by simp) ?_
            refine AllReadyH.cons rfl (fun K hK => ?_) (AllReadyH.cons rfl (fun K hK => ?_) AllReadyH.nil)
            · go_simp
              refine (Ck4.out _).mono ?_
              rintro e U8 ⟨rfl, hbc⟩
              refine hK.out _ _ (hS.trans (hbc.mono hS.size)) (fun hS => ?_)
              replace hZ6 := (hbc.block B6 (Array.getElem?_eq_some_iff.1 hZ6).1).trans hZ6
              replace hLT6 := (Array.getElem?_eq_some_iff.1 hZ6).1
              clear hK K hbc
              refine wpAnyH_ready (rs := [7]) (by kernel_rfl) (by simp) ?_
              refine AllReadyH.cons rfl (fun K hK => ?_) AllReadyH.nil
              · go_simp
                obtain ⟨B7, hBe⟩ : ∃ B7, B7 = U8.heap.size := ⟨_, rfl⟩
                have hZ7 : (U8.alloc (.cells #[.int .u64 0, .int .u64 0, .int .u64 0, .int .u64 0] 24)).heap[B7]? = some (.cells #[.int .u64 0, .int .u64 0, .int .u64 0, .int .u64 0] 24 (0, 0)) := by rw [hBe]; exact heap_new _ _
                have hL7 : wA.heap.size ≤ B7 := by rw [hBe]; exact hS.size
                have hSA : Below wA.heap.size wA (U8.alloc (.cells #[.int .u64 0, .int .u64 0, .int .u64 0, .int .u64 0] 24)) := hS.alloc hS.size _
                have hY6 : (U8.alloc (.cells #[.int .u64 0, .int .u64 0, .int .u64 0, .int .u64 0] 24)).heap[B6]? = _ := (heap_old _ _ (Array.getElem?_eq_some_iff.1 hZ6).1).trans hZ6
                clear hZ6
                have hZ6 := hY6
                clear hY6
                have hN76 : B6 ≠ B7 := by rw [hBe]; exact Nat.ne_of_lt (hLT6)
                rw [← hBe]
                have hLT7 : B7 < (U8.alloc (.cells #[.int .u64 0, .int .u64 0, .int .u64 0, .int .u64 0] 24)).heap.size := (Array.getElem?_eq_some_iff.1 hZ7).1
                have hQ6 : B6 < (U8.alloc (.cells #[.int .u64 0, .int .u64 0, .int .u64 0, .int .u64 0] 24)).heap.size := (Array.getElem?_eq_some_iff.1 hZ6).1
                clear hLT6
                have hLT6 := hQ6
                clear hQ6
                generalize (U8.alloc (.cells #[.int .u64 0, .int .u64 0, .int .u64 0, .int .u64 0] 24)) = U9 at hZ7 hZ6 hSA hLT7 hLT6 ⊢
                refine hK.out _ _ hSA (fun hS => ?_)
                clear hK K hSA hBe
                obtain ⟨a0, a1, a2, a3⟩ := cells4 hZ6
                have fa : ∀ o, U9.frozen? ⟨B6, o, none⟩ = false := fun o => blk_free hZ6
                refine wpAnyH_ready (rs := [8]) (by kernel_rfl) (by simp) (AllReadyH.cons rfl (fun K hK => ?_) AllReadyH.nil)
                go_simp
                have g6 := stored4 (z0 := .int .u64 u0) (z1 := .int .u64 u1) (z2 := .int .u64 u2) (z3 := .int .u64 u3) hZ6
                have hSB := below_stored4 (b := B6) (z0 := .int .u64 u0) (z1 := .int .u64 u1) (z2 := .int .u64 u2) (z3 := .int .u64 u3) hS hL6
                have o7 := (other4 (b := B6) (c := B7) (z0 := .int .u64 u0) (z1 := .int .u64 u1) (z2 := .int .u64 u2) (z3 := .int .u64 u3) (by first | exact hN76 | exact (hN76).symm | exact hN67 | exact (hN67).symm)).trans hZ7
                clear hZ7
                have hZ7 := o7
                clear o7
                generalize ((((U9.setCell ⟨B6, 0, none⟩ (.int .u64 u0)).setCell ⟨B6, 1, none⟩ (.int .u64 u1)).setCell ⟨B6, 2, none⟩ (.int .u64 u2)).setCell ⟨B6, 3, none⟩ (.int .u64 u3)) = U9x at g6 hSB hZ7 ⊢
                refine hK.out _ _ hSB (fun hS => ?_)
                clear hK K hSB a0 a1 a2 a3 fa hZ6
                obtain ⟨a0, a1, a2, a3⟩ := cells4 hZ7
                have fa : ∀ o, U9x.frozen? ⟨B7, o, none⟩ = false := fun o => blk_free hZ7
                refine wpAnyH_ready (rs := [9]) (by kernel_rfl) (by simp) (AllReadyH.cons rfl (fun K hK => ?_) AllReadyH.nil)
                go_simp
                have g7 := stored4 (z0 := .int .u64 v0) (z1 := .int .u64 v1) (z2 := .int .u64 v2) (z3 := .int .u64 v3) hZ7
                have hSB := below_stored4 (b := B7) (z0 := .int .u64 v0) (z1 := .int .u64 v1) (z2 := .int .u64 v2) (z3 := .int .u64 v3) hS hL7
                have o6 := (other4 (b := B7) (c := B6) (z0 := .int .u64 v0) (z1 := .int .u64 v1) (z2 := .int .u64 v2) (z3 := .int .u64 v3) (by first | exact hN67 | exact (hN67).symm | exact hN76 | exact (hN76).symm)).trans g6
                clear g6
                have g6 := o6
                clear o6
                generalize ((((U9x.setCell ⟨B7, 0, none⟩ (.int .u64 v0)).setCell ⟨B7, 1, none⟩ (.int .u64 v1)).setCell ⟨B7, 2, none⟩ (.int .u64 v2)).setCell ⟨B7, 3, none⟩ (.int .u64 v3)) = U9xx at g7 hSB g6 ⊢
                refine hK.out _ _ hSB (fun hS => wpAnyH_done (by kernel_rfl) ?_ _)
                clear hK K
                go_wp2_with fail
                go_meet
                exact ⟨B6, B7, rfl, rfl, g6, g7, hSB⟩
            · go_simp
              obtain ⟨B7, hBe⟩ : ∃ B7, B7 = U7.heap.size := ⟨_, rfl⟩
              have hZ7 : (U7.alloc (.cells #[.int .u64 0, .int .u64 0, .int .u64 0, .int .u64 0] 24)).heap[B7]? = some (.cells #[.int .u64 0, .int .u64 0, .int .u64 0, .int .u64 0] 24 (0, 0)) := by rw [hBe]; exact heap_new _ _
              have hL7 : wA.heap.size ≤ B7 := by rw [hBe]; exact hS.size
              have hSA : Below wA.heap.size wA (U7.alloc (.cells #[.int .u64 0, .int .u64 0, .int .u64 0, .int .u64 0] 24)) := hS.alloc hS.size _
              have hY6 : (U7.alloc (.cells #[.int .u64 0, .int .u64 0, .int .u64 0, .int .u64 0] 24)).heap[B6]? = _ := (heap_old _ _ (Array.getElem?_eq_some_iff.1 hZ6).1).trans hZ6
              clear hZ6
              have hZ6 := hY6
              clear hY6
              have hN76 : B6 ≠ B7 := by rw [hBe]; exact Nat.ne_of_lt (hLT6)
              rw [← hBe]
              have hLT7 : B7 < (U7.alloc (.cells #[.int .u64 0, .int .u64 0, .int .u64 0, .int .u64 0] 24)).heap.size := (Array.getElem?_eq_some_iff.1 hZ7).1
              have hQ6 : B6 < (U7.alloc (.cells #[.int .u64 0, .int .u64 0, .int .u64 0, .int .u64 0] 24)).heap.size := (Array.getElem?_eq_some_iff.1 hZ6).1
              clear hLT6
              have hLT6 := hQ6
              clear hQ6
              generalize (U7.alloc (.cells #[.int .u64 0, .int .u64 0, .int .u64 0, .int .u64 0] 24)) = U10 at hZ7 hZ6 hSA hLT7 hLT6 ⊢
              refine hK.out _ _ hSA (fun hS => ?_)
              clear hK K hSA hBe
              refine wpAnyH_ready (rs := [5]) (by kernel_rfl) (by simp) ?_
              refine AllReadyH.cons rfl (fun K hK => ?_) AllReadyH.nil
              · go_simp
                refine (Ck4.out _).mono ?_
                rintro e U11 ⟨rfl, hbc⟩
                refine hK.out _ _ (hS.trans (hbc.mono hS.size)) (fun hS => ?_)
                replace hZ6 := (hbc.block B6 (Array.getElem?_eq_some_iff.1 hZ6).1).trans hZ6
                replace hLT6 := (Array.getElem?_eq_some_iff.1 hZ6).1
                replace hZ7 := (hbc.block B7 (Array.getElem?_eq_some_iff.1 hZ7).1).trans hZ7
                replace hLT7 := (Array.getElem?_eq_some_iff.1 hZ7).1
                clear hK K hbc
                obtain ⟨a0, a1, a2, a3⟩ := cells4 hZ6
                have fa : ∀ o, U11.frozen? ⟨B6, o, none⟩ = false := fun o => blk_free hZ6
                refine wpAnyH_ready (rs := [8]) (by kernel_rfl) (by simp) (AllReadyH.cons rfl (fun K hK => ?_) AllReadyH.nil)
                go_simp
                have g6 := stored4 (z0 := .int .u64 u0) (z1 := .int .u64 u1) (z2 := .int .u64 u2) (z3 := .int .u64 u3) hZ6
                have hSB := below_stored4 (b := B6) (z0 := .int .u64 u0) (z1 := .int .u64 u1) (z2 := .int .u64 u2) (z3 := .int .u64 u3) hS hL6
                have o7 := (other4 (b := B6) (c := B7) (z0 := .int .u64 u0) (z1 := .int .u64 u1) (z2 := .int .u64 u2) (z3 := .int .u64 u3) (by first | exact hN76 | exact (hN76).symm | exact hN67 | exact (hN67).symm)).trans hZ7
                clear hZ7
                have hZ7 := o7
                clear o7
                generalize ((((U11.setCell ⟨B6, 0, none⟩ (.int .u64 u0)).setCell ⟨B6, 1, none⟩ (.int .u64 u1)).setCell ⟨B6, 2, none⟩ (.int .u64 u2)).setCell ⟨B6, 3, none⟩ (.int .u64 u3)) = U11x at g6 hSB hZ7 ⊢
                refine hK.out _ _ hSB (fun hS => ?_)
                clear hK K hSB a0 a1 a2 a3 fa hZ6
                obtain ⟨a0, a1, a2, a3⟩ := cells4 hZ7
                have fa : ∀ o, U11x.frozen? ⟨B7, o, none⟩ = false := fun o => blk_free hZ7
                refine wpAnyH_ready (rs := [9]) (by kernel_rfl) (by simp) (AllReadyH.cons rfl (fun K hK => ?_) AllReadyH.nil)
                go_simp
                have g7 := stored4 (z0 := .int .u64 v0) (z1 := .int .u64 v1) (z2 := .int .u64 v2) (z3 := .int .u64 v3) hZ7
                have hSB := below_stored4 (b := B7) (z0 := .int .u64 v0) (z1 := .int .u64 v1) (z2 := .int .u64 v2) (z3 := .int .u64 v3) hS hL7
                have o6 := (other4 (b := B7) (c := B6) (z0 := .int .u64 v0) (z1 := .int .u64 v1) (z2 := .int .u64 v2) (z3 := .int .u64 v3) (by first | exact hN67 | exact (hN67).symm | exact hN76 | exact (hN76).symm)).trans g6
                clear g6
                have g6 := o6
                clear o6
                generalize ((((U11x.setCell ⟨B7, 0, none⟩ (.int .u64 v0)).setCell ⟨B7, 1, none⟩ (.int .u64 v1)).setCell ⟨B7, 2, none⟩ (.int .u64 v2)).setCell ⟨B7, 3, none⟩ (.int .u64 v3)) = U11xx at g7 hSB g6 ⊢
                refine hK.out _ _ hSB (fun hS => wpAnyH_done (by kernel_rfl) ?_ _)
                clear hK K
                go_wp2_with fail
                go_meet
                exact ⟨B6, B7, rfl, rfl, g6, g7, hSB⟩
          · go_simp
            obtain ⟨B7, hBe⟩ : ∃ B7, B7 = U1.heap.size := ⟨_, rfl⟩
            have hZ7 : (U1.alloc (.cells #[.int .u64 0, .int .u64 0, .int .u64 0, .int .u64 0] 24)).heap[B7]? = some (.cells #[.int .u64 0, .int .u64 0, .int .u64 0, .int .u64 0] 24 (0, 0)) := by rw [hBe]; exact heap_new _ _
            have hL7 : wA.heap.size ≤ B7 := by rw [hBe]; exact hS.size
            have hSA : Below wA.heap.size wA (U1.alloc (.cells #[.int .u64 0, .int .u64 0, .int .u64 0, .int .u64 0] 24)) := hS.alloc hS.size _
            rw [← hBe]
            have hLT7 : B7 < (U1.alloc (.cells #[.int .u64 0, .int .u64 0, .int .u64 0, .int .u64 0] 24)).heap.size := (Array.getElem?_eq_some_iff.1 hZ7).1
            generalize (U1.alloc (.cells #[.int .u64 0, .int .u64 0, .int .u64 0, .int .u64 0] 24)) = U12 at hZ7  hSA hLT7  ⊢
            refine hK.out _ _ hSA (fun hS => ?_)
            clear hK K hSA hBe
            refine wpAnyH_ready (rs := [5, 6]) (by kernel_rfl) (by simp) ?_
            refine AllReadyH.cons rfl (fun K hK => ?_) (AllReadyH.cons rfl (fun K hK => ?_) AllReadyH.nil)
            · go_simp
              refine (Ck4.out _).mono ?_
              rintro e U13 ⟨rfl, hbc⟩
              refine hK.out _ _ (hS.trans (hbc.mono hS.size)) (fun hS => ?_)
              replace hZ7 := (hbc.block B7 (Array.getElem?_eq_some_iff.1 hZ7).1).trans hZ7
              replace hLT7 := (Array.getElem?_eq_some_iff.1 hZ7).1
              clear hK K hbc
              refine wpAnyH_ready (rs := [6]) (by kernel_rfl) (by simp) ?_
              refine AllReadyH.cons rfl (fun K hK => ?_) AllReadyH.nil
              · go_simp
                obtain ⟨B6, hBe⟩ : ∃ B6, B6 = U13.heap.size := ⟨_, rfl⟩
                have hZ6 : (U13.alloc (.cells #[.int .u64 0, .int .u64 0, .int .u64 0, .int .u64 0] 24)).heap[B6]? = some (.cells #[.int .u64 0, .int .u64 0, .int .u64 0, .int .u64 0] 24 (0, 0)) := by rw [hBe]; exact heap_new _ _
                have hL6 : wA.heap.size ≤ B6 := by rw [hBe]; exact hS.size
                have hSA : Below wA.heap.size wA (U13.alloc (.cells #[.int .u64 0, .int .u64 0, .int .u64 0, .int .u64 0] 24)) := hS.alloc hS.size _
                have hY7 : (U13.alloc (.cells #[.int .u64 0, .int .u64 0, .int .u64 0, .int .u64 0] 24)).heap[B7]? = _ := (heap_old _ _ (Array.getElem?_eq_some_iff.1 hZ7).1).trans hZ7
                clear hZ7
                have hZ7 := hY7
                clear hY7
                have hN67 : B7 ≠ B6 := by rw [hBe]; exact Nat.ne_of_lt (hLT7)
                rw [← hBe]
                have hLT6 : B6 < (U13.alloc (.cells #[.int .u64 0, .int .u64 0, .int .u64 0, .int .u64 0] 24)).heap.size := (Array.getElem?_eq_some_iff.1 hZ6).1
                have hQ7 : B7 < (U13.alloc (.cells #[.int .u64 0, .int .u64 0, .int .u64 0, .int .u64 0] 24)).heap.size := (Array.getElem?_eq_some_iff.1 hZ7).1
                clear hLT7
                have hLT7 := hQ7
                clear hQ7
                generalize (U13.alloc (.cells #[.int .u64 0, .int .u64 0, .int .u64 0, .int .u64 0] 24)) = U14 at hZ6 hZ7 hSA hLT6 hLT7 ⊢
                refine hK.out _ _ hSA (fun hS => ?_)
                clear hK K hSA hBe
                obtain ⟨a0, a1, a2, a3⟩ := cells4 hZ6
                have fa : ∀ o, U14.frozen? ⟨B6, o, none⟩ = false := fun o => blk_free hZ6
                refine wpAnyH_ready (rs := [8]) (by kernel_rfl) (by simp) (AllReadyH.cons rfl (fun K hK => ?_) AllReadyH.nil)
                go_simp
                have g6 := stored4 (z0 := .int .u64 u0) (z1 := .int .u64 u1) (z2 := .int .u64 u2) (z3 := .int .u64 u3) hZ6
                have hSB := below_stored4 (b := B6) (z0 := .int .u64 u0) (z1 := .int .u64 u1) (z2 := .int .u64 u2) (z3 := .int .u64 u3) hS hL6
                have o7 := (other4 (b := B6) (c := B7) (z0 := .int .u64 u0) (z1 := .int .u64 u1) (z2 := .int .u64 u2) (z3 := .int .u64 u3) (by first | exact hN76 | exact (hN76).symm | exact hN67 | exact (hN67).symm)).trans hZ7
                clear hZ7
                have hZ7 := o7
                clear o7
                generalize ((((U14.setCell ⟨B6, 0, none⟩ (.int .u64 u0)).setCell ⟨B6, 1, none⟩ (.int .u64 u1)).setCell ⟨B6, 2, none⟩ (.int .u64 u2)).setCell ⟨B6, 3, none⟩ (.int .u64 u3)) = U14x at g6 hSB hZ7 ⊢
                refine hK.out _ _ hSB (fun hS => ?_)
                clear hK K hSB a0 a1 a2 a3 fa hZ6
                obtain ⟨a0, a1, a2, a3⟩ := cells4 hZ7
                have fa : ∀ o, U14x.frozen? ⟨B7, o, none⟩ = false := fun o => blk_free hZ7
                refine wpAnyH_ready (rs := [9]) (by kernel_rfl) (by simp) (AllReadyH.cons rfl (fun K hK => ?_) AllReadyH.nil)
                go_simp
                have g7 := stored4 (z0 := .int .u64 v0) (z1 := .int .u64 v1) (z2 := .int .u64 v2) (z3 := .int .u64 v3) hZ7
                have hSB := below_stored4 (b := B7) (z0 := .int .u64 v0) (z1 := .int .u64 v1) (z2 := .int .u64 v2) (z3 := .int .u64 v3) hS hL7
                have o6 := (other4 (b := B7) (c := B6) (z0 := .int .u64 v0) (z1 := .int .u64 v1) (z2 := .int .u64 v2) (z3 := .int .u64 v3) (by first | exact hN67 | exact (hN67).symm | exact hN76 | exact (hN76).symm)).trans g6
                clear g6
                have g6 := o6
                clear o6
                generalize ((((U14x.setCell ⟨B7, 0, none⟩ (.int .u64 v0)).setCell ⟨B7, 1, none⟩ (.int .u64 v1)).setCell ⟨B7, 2, none⟩ (.int .u64 v2)).setCell ⟨B7, 3, none⟩ (.int .u64 v3)) = U14xx at g7 hSB g6 ⊢
                refine hK.out _ _ hSB (fun hS => wpAnyH_done (by kernel_rfl) ?_ _)
                clear hK K
                go_wp2_with fail
                go_meet
                exact ⟨B6, B7, rfl, rfl, g6, g7, hSB⟩
            · go_simp
              obtain ⟨B6, hBe⟩ : ∃ B6, B6 = U12.heap.size := ⟨_, rfl⟩
              have hZ6 : (U12.alloc (.cells #[.int .u64 0, .int .u64 0, .int .u64 0, .int .u64 0] 24)).heap[B6]? = some (.cells #[.int .u64 0, .int .u64 0, .int .u64 0, .int .u64 0] 24 (0, 0)) := by rw [hBe]; exact heap_new _ _
              have hL6 : wA.heap.size ≤ B6 := by rw [hBe]; exact hS.size
              have hSA : Below wA.heap.size wA (U12.alloc (.cells #[.int .u64 0, .int .u64 0, .int .u64 0, .int .u64 0] 24)) := hS.alloc hS.size _
              have hY7 : (U12.alloc (.cells #[.int .u64 0, .int .u64 0, .int .u64 0, .int .u64 0] 24)).heap[B7]? = _ := (heap_old _ _ (Array.getElem?_eq_some_iff.1 hZ7).1).trans hZ7
              clear hZ7
              have hZ7 := hY7
              clear hY7
              have hN67 : B7 ≠ B6 := by rw [hBe]; exact Nat.ne_of_lt (hLT7)
              rw [← hBe]
              have hLT6 : B6 < (U12.alloc (.cells #[.int .u64 0, .int .u64 0, .int .u64 0, .int .u64 0] 24)).heap.size := (Array.getElem?_eq_some_iff.1 hZ6).1
              have hQ7 : B7 < (U12.alloc (.cells #[.int .u64 0, .int .u64 0, .int .u64 0, .int .u64 0] 24)).heap.size := (Array.getElem?_eq_some_iff.1 hZ7).1
              clear hLT7
              have hLT7 := hQ7
              clear hQ7
              generalize (U12.alloc (.cells #[.int .u64 0, .int .u64 0, .int .u64 0, .int .u64 0] 24)) = U15 at hZ6 hZ7 hSA hLT6 hLT7 ⊢
              refine hK.out _ _ hSA (fun hS => ?_)
              clear hK K hSA hBe
              refine wpAnyH_ready (rs := [5]) (by kernel_rfl) (by simp) ?_
              refine AllReadyH.cons rfl (fun K hK => ?_) AllReadyH.nil
              · go_simp
                refine (Ck4.out _).mono ?_
                rintro e U16 ⟨rfl, hbc⟩
                refine hK.out _ _ (hS.trans (hbc.mono hS.size)) (fun hS => ?_)
                replace hZ7 := (hbc.block B7 (Array.getElem?_eq_some_iff.1 hZ7).1).trans hZ7
                replace hLT7 := (Array.getElem?_eq_some_iff.1 hZ7).1
                replace hZ6 := (hbc.block B6 (Array.getElem?_eq_some_iff.1 hZ6).1).trans hZ6
                replace hLT6 := (Array.getElem?_eq_some_iff.1 hZ6).1
                clear hK K hbc
                obtain ⟨a0, a1, a2, a3⟩ := cells4 hZ6
                have fa : ∀ o, U16.frozen? ⟨B6, o, none⟩ = false := fun o => blk_free hZ6
                refine wpAnyH_ready (rs := [8]) (by kernel_rfl) (by simp) (AllReadyH.cons rfl (fun K hK => ?_) AllReadyH.nil)
                go_simp
                have g6 := stored4 (z0 := .int .u64 u0) (z1 := .int .u64 u1) (z2 := .int .u64 u2) (z3 := .int .u64 u3) hZ6
                have hSB := below_stored4 (b := B6) (z0 := .int .u64 u0) (z1 := .int .u64 u1) (z2 := .int .u64 u2) (z3 := .int .u64 u3) hS hL6
                have o7 := (other4 (b := B6) (c := B7) (z0 := .int .u64 u0) (z1 := .int .u64 u1) (z2 := .int .u64 u2) (z3 := .int .u64 u3) (by first | exact hN76 | exact (hN76).symm | exact hN67 | exact (hN67).symm)).trans hZ7
                clear hZ7
                have hZ7 := o7
                clear o7
                generalize ((((U16.setCell ⟨B6, 0, none⟩ (.int .u64 u0)).setCell ⟨B6, 1, none⟩ (.int .u64 u1)).setCell ⟨B6, 2, none⟩ (.int .u64 u2)).setCell ⟨B6, 3, none⟩ (.int .u64 u3)) = U16x at g6 hSB hZ7 ⊢
                refine hK.out _ _ hSB (fun hS => ?_)
                clear hK K hSB a0 a1 a2 a3 fa hZ6
                obtain ⟨a0, a1, a2, a3⟩ := cells4 hZ7
                have fa : ∀ o, U16x.frozen? ⟨B7, o, none⟩ = false := fun o => blk_free hZ7
                refine wpAnyH_ready (rs := [9]) (by kernel_rfl) (by simp) (AllReadyH.cons rfl (fun K hK => ?_) AllReadyH.nil)
                go_simp
                have g7 := stored4 (z0 := .int .u64 v0) (z1 := .int .u64 v1) (z2 := .int .u64 v2) (z3 := .int .u64 v3) hZ7
                have hSB := below_stored4 (b := B7) (z0 := .int .u64 v0) (z1 := .int .u64 v1) (z2 := .int .u64 v2) (z3 := .int .u64 v3) hS hL7
                have o6 := (other4 (b := B7) (c := B6) (z0 := .int .u64 v0) (z1 := .int .u64 v1) (z2 := .int .u64 v2) (z3 := .int .u64 v3) (by first | exact hN67 | exact (hN67).symm | exact hN76 | exact (hN76).symm)).trans g6
                clear g6
                have g6 := o6
                clear o6
                generalize ((((U16x.setCell ⟨B7, 0, none⟩ (.int .u64 v0)).setCell ⟨B7, 1, none⟩ (.int .u64 v1)).setCell ⟨B7, 2, none⟩ (.int .u64 v2)).setCell ⟨B7, 3, none⟩ (.int .u64 v3)) = U16xx at g7 hSB g6 ⊢
                refine hK.out _ _ hSB (fun hS => wpAnyH_done (by kernel_rfl) ?_ _)
                clear hK K
                go_wp2_with fail
                go_meet
                exact ⟨B6, B7, rfl, rfl, g6, g7, hSB⟩
        · go_simp
          obtain ⟨B6, hBe⟩ : ∃ B6, B6 = wA.heap.size := ⟨_, rfl⟩
          have hZ6 : (wA.alloc (.cells #[.int .u64 0, .int .u64 0, .int .u64 0, .int .u64 0] 24)).drew.heap[B6]? = some (.cells #[.int .u64 0, .int .u64 0, .int .u64 0, .int .u64 0] 24 (0, 0)) := by rw [hBe]; exact heap_new _ _
          have hL6 : wA.heap.size ≤ B6 := by rw [hBe]; exact Nat.le_refl _
          have hSA : Below wA.heap.size wA (wA.alloc (.cells #[.int .u64 0, .int .u64 0, .int .u64 0, .int .u64 0] 24)).drew := ((Below.refl _ wA).alloc (Nat.le_refl _) _).drew
          rw [← hBe]
          have hLT6 : B6 < (wA.alloc (.cells #[.int .u64 0, .int .u64 0, .int .u64 0, .int .u64 0] 24)).drew.heap.size := (Array.getElem?_eq_some_iff.1 hZ6).1
          generalize (wA.alloc (.cells #[.int .u64 0, .int .u64 0, .int .u64 0, .int .u64 0] 24)).drew = U17 at hZ6  hSA hLT6  ⊢
          refine hK.out _ _ hSA (fun hS => ?_)
          clear hK K hSA hBe
          refine wpAnyH_ready (rs := [2, 7]) (by kernel_rfl) (by simp) ?_
          refine AllReadyH.cons rfl (fun K hK => ?_) (AllReadyH.cons rfl (fun K hK => ?_) AllReadyH.nil)
          · go_simp
            refine (Ck3.out _).mono ?_
            rintro e U18 ⟨rfl, hbc⟩
            refine hK.out _ _ (hS.trans (hbc.mono hS.size)) (fun hS => ?_)
            replace hZ6 := (hbc.block B6 (Array.getElem?_eq_some_iff.1 hZ6).1).trans hZ6
            replace hLT6 := (Array.getElem?_eq_some_iff.1 hZ6).1
            clear hK K hbc
            refine wpAnyH_ready (rs := [5, 7]) (by kernel_rfl) (by simp) ?_
            refine AllReadyH.cons rfl (fun K hK => ?_) (AllReadyH.cons rfl (fun K hK => ?_) AllReadyH.nil)
            · go_simp
              refine (Ck4.out _).mono ?_
              rintro e U19 ⟨rfl, hbc⟩
              refine hK.out _ _ (hS.trans (hbc.mono hS.size)) (fun hS => ?_)
              replace hZ6 := (hbc.block B6 (Array.getElem?_eq_some_iff.1 hZ6).1).trans hZ6
              replace hLT6 := (Array.getElem?_eq_some_iff.1 hZ6).1
              clear hK K hbc
              refine wpAnyH_ready (rs := [7]) (by kernel_rfl) (by simp) ?_
              refine AllReadyH.cons rfl (fun K hK => ?_) AllReadyH.nil
              · go_simp
                obtain ⟨B7, hBe⟩ : ∃ B7, B7 = U19.heap.size := ⟨_, rfl⟩
                have hZ7 : (U19.alloc (.cells #[.int .u64 0, .int .u64 0, .int .u64 0, .int .u64 0] 24)).heap[B7]? = some (.cells #[.int .u64 0, .int .u64 0, .int .u64 0, .int .u64 0] 24 (0, 0)) := by rw [hBe]; exact heap_new _ _
                have hL7 : wA.heap.size ≤ B7 := by rw [hBe]; exact hS.size
                have hSA : Below wA.heap.size wA (U19.alloc (.cells #[.int .u64 0, .int .u64 0, .int .u64 0, .int .u64 0] 24)) := hS.alloc hS.size _
                have hY6 : (U19.alloc (.cells #[.int .u64 0, .int .u64 0, .int .u64 0, .int .u64 0] 24)).heap[B6]? = _ := (heap_old _ _ (Array.getElem?_eq_some_iff.1 hZ6).1).trans hZ6
                clear hZ6
                have hZ6 := hY6
                clear hY6
                have hN76 : B6 ≠ B7 := by rw [hBe]; exact Nat.ne_of_lt (hLT6)
                rw [← hBe]
                have hLT7 : B7 < (U19.alloc (.cells #[.int .u64 0, .int .u64 0, .int .u64 0, .int .u64 0] 24)).heap.size := (Array.getElem?_eq_some_iff.1 hZ7).1
                have hQ6 : B6 < (U19.alloc (.cells #[.int .u64 0, .int .u64 0, .int .u64 0, .int .u64 0] 24)).heap.size := (Array.getElem?_eq_some_iff.1 hZ6).1
                clear hLT6
                have hLT6 := hQ6
                clear hQ6
                generalize (U19.alloc (.cells #[.int .u64 0, .int .u64 0, .int .u64 0, .int .u64 0] 24)) = U20 at hZ7 hZ6 hSA hLT7 hLT6 ⊢
                refine hK.out _ _ hSA (fun hS => ?_)
                clear hK K hSA hBe
                obtain ⟨a0, a1, a2, a3⟩ := cells4 hZ6
                have fa : ∀ o, U20.frozen? ⟨B6, o, none⟩ = false := fun o => blk_free hZ6
                refine wpAnyH_ready (rs := [8]) (by kernel_rfl) (by simp) (AllReadyH.cons rfl (fun K hK => ?_) AllReadyH.nil)
                go_simp
                have g6 := stored4 (z0 := .int .u64 u0) (z1 := .int .u64 u1) (z2 := .int .u64 u2) (z3 := .int .u64 u3) hZ6
                have hSB := below_stored4 (b := B6) (z0 := .int .u64 u0) (z1 := .int .u64 u1) (z2 := .int .u64 u2) (z3 := .int .u64 u3) hS hL6
                have o7 := (other4 (b := B6) (c := B7) (z0 := .int .u64 u0) (z1 := .int .u64 u1) (z2 := .int .u64 u2) (z3 := .int .u64 u3) (by first | exact hN76 | exact (hN76).symm | exact hN67 | exact (hN67).symm)).trans hZ7
                clear hZ7
                have hZ7 := o7
                clear o7
                generalize ((((U20.setCell ⟨B6, 0, none⟩ (.int .u64 u0)).setCell ⟨B6, 1, none⟩ (.int .u64 u1)).setCell ⟨B6, 2, none⟩ (.int .u64 u2)).setCell ⟨B6, 3, none⟩ (.int .u64 u3)) = U20x at g6 hSB hZ7 ⊢
                refine hK.out _ _ hSB (fun hS => ?_)
                clear hK K hSB a0 a1 a2 a3 fa hZ6
                obtain ⟨a0, a1, a2, a3⟩ := cells4 hZ7
                have fa : ∀ o, U20x.frozen? ⟨B7, o, none⟩ = false := fun o => blk_free hZ7
                refine wpAnyH_ready (rs := [9]) (by kernel_rfl) (by simp) (AllReadyH.cons rfl (fun K hK => ?_) AllReadyH.nil)
                go_simp
                have g7 := stored4 (z0 := .int .u64 v0) (z1 := .int .u64 v1) (z2 := .int .u64 v2) (z3 := .int .u64 v3) hZ7
                have hSB := below_stored4 (b := B7) (z0 := .int .u64 v0) (z1 := .int .u64 v1) (z2 := .int .u64 v2) (z3 := .int .u64 v3) hS hL7
                have o6 := (other4 (b := B7) (c := B6) (z0 := .int .u64 v0) (z1 := .int .u64 v1) (z2 := .int .u64 v2) (z3 := .int .u64 v3) (by first | exact hN67 | exact (hN67).symm | exact hN76 | exact (hN76).symm)).trans g6
                clear g6
                have g6 := o6
                clear o6
                generalize ((((U20x.setCell ⟨B7, 0, none⟩ (.int .u64 v0)).setCell ⟨B7, 1, none⟩ (.int .u64 v1)).setCell ⟨B7, 2, none⟩ (.int .u64 v2)).setCell ⟨B7, 3, none⟩ (.int .u64 v3)) = U20xx at g7 hSB g6 ⊢
                refine hK.out _ _ hSB (fun hS => wpAnyH_done (by kernel_rfl) ?_ _)
                clear hK K
                go_wp2_with fail
                go_meet
                exact ⟨B6, B7, rfl, rfl, g6, g7, hSB⟩
            · go_simp
              obtain ⟨B7, hBe⟩ : ∃ B7, B7 = U18.heap.size := ⟨_, rfl⟩
              have hZ7 : (U18.alloc (.cells #[.int .u64 0, .int .u64 0, .int .u64 0, .int .u64 0] 24)).heap[B7]? = some (.cells #[.int .u64 0, .int .u64 0, .int .u64 0, .int .u64 0] 24 (0, 0)) := by rw [hBe]; exact heap_new _ _
              have hL7 : wA.heap.size ≤ B7 := by rw [hBe]; exact hS.size
              have hSA : Below wA.heap.size wA (U18.alloc (.cells #[.int .u64 0, .int .u64 0, .int .u64 0, .int .u64 0] 24)) := hS.alloc hS.size _
              have hY6 : (U18.alloc (.cells #[.int .u64 0, .int .u64 0, .int .u64 0, .int .u64 0] 24)).heap[B6]? = _ := (heap_old _ _ (Array.getElem?_eq_some_iff.1 hZ6).1).trans hZ6
              clear hZ6
              have hZ6 := hY6
              clear hY6
              have hN76 : B6 ≠ B7 := by rw [hBe]; exact Nat.ne_of_lt (hLT6)
              rw [← hBe]
              have hLT7 : B7 < (U18.alloc (.cells #[.int .u64 0, .int .u64 0, .int .u64 0, .int .u64 0] 24)).heap.size := (Array.getElem?_eq_some_iff.1 hZ7).1
              have hQ6 : B6 < (U18.alloc (.cells #[.int .u64 0, .int .u64 0, .int .u64 0, .int .u64 0] 24)).heap.size := (Array.getElem?_eq_some_iff.1 hZ6).1
              clear hLT6
              have hLT6 := hQ6
              clear hQ6
              generalize (U18.alloc (.cells #[.int .u64 0, .int .u64 0, .int .u64 0, .int .u64 0] 24)) = U21 at hZ7 hZ6 hSA hLT7 hLT6 ⊢
              refine hK.out _ _ hSA (fun hS => ?_)
              clear hK K hSA hBe
              refine wpAnyH_ready (rs := [5]) (by kernel_rfl) (by simp) ?_
              refine AllReadyH.cons rfl (fun K hK => ?_) AllReadyH.nil
              · go_simp
                refine (Ck4.out _).mono ?_
                rintro e U22 ⟨rfl, hbc⟩
                refine hK.out _ _ (hS.trans (hbc.mono hS.size)) (fun hS => ?_)
                replace hZ6 := (hbc.block B6 (Array.getElem?_eq_some_iff.1 hZ6).1).trans hZ6
                replace hLT6 := (Array.getElem?_eq_some_iff.1 hZ6).1
                replace hZ7 := (hbc.block B7 (Array.getElem?_eq_some_iff.1 hZ7).1).trans hZ7
                replace hLT7 := (Array.getElem?_eq_some_iff.1 hZ7).1
                clear hK K hbc
                obtain ⟨a0, a1, a2, a3⟩ := cells4 hZ6
                have fa : ∀ o, U22.frozen? ⟨B6, o, none⟩ = false := fun o => blk_free hZ6
                refine wpAnyH_ready (rs := [8]) (by kernel_rfl) (by simp) (AllReadyH.cons rfl (fun K hK => ?_) AllReadyH.nil)
                go_simp
                have g6 := stored4 (z0 := .int .u64 u0) (z1 := .int .u64 u1) (z2 := .int .u64 u2) (z3 := .int .u64 u3) hZ6
                have hSB := below_stored4 (b := B6) (z0 := .int .u64 u0) (z1 := .int .u64 u1) (z2 := .int .u64 u2) (z3 := .int .u64 u3) hS hL6
                have o7 := (other4 (b := B6) (c := B7) (z0 := .int .u64 u0) (z1 := .int .u64 u1) (z2 := .int .u64 u2) (z3 := .int .u64 u3) (by first | exact hN76 | exact (hN76).symm | exact hN67 | exact (hN67).symm)).trans hZ7
                clear hZ7
                have hZ7 := o7
                clear o7
                generalize ((((U22.setCell ⟨B6, 0, none⟩ (.int .u64 u0)).setCell ⟨B6, 1, none⟩ (.int .u64 u1)).setCell ⟨B6, 2, none⟩ (.int .u64 u2)).setCell ⟨B6, 3, none⟩ (.int .u64 u3)) = U22x at g6 hSB hZ7 ⊢
                refine hK.out _ _ hSB (fun hS => ?_)
                clear hK K hSB a0 a1 a2 a3 fa hZ6
                obtain ⟨a0, a1, a2, a3⟩ := cells4 hZ7
                have fa : ∀ o, U22x.frozen? ⟨B7, o, none⟩ = false := fun o => blk_free hZ7
                refine wpAnyH_ready (rs := [9]) (by kernel_rfl) (by simp) (AllReadyH.cons rfl (fun K hK => ?_) AllReadyH.nil)
                go_simp
                have g7 := stored4 (z0 := .int .u64 v0) (z1 := .int .u64 v1) (z2 := .int .u64 v2) (z3 := .int .u64 v3) hZ7
                have hSB := below_stored4 (b := B7) (z0 := .int .u64 v0) (z1 := .int .u64 v1) (z2 := .int .u64 v2) (z3 := .int .u64 v3) hS hL7
                have o6 := (other4 (b := B7) (c := B6) (z0 := .int .u64 v0) (z1 := .int .u64 v1) (z2 := .int .u64 v2) (z3 := .int .u64 v3) (by first | exact hN67 | exact (hN67).symm | exact hN76 | exact (hN76).symm)).trans g6
                clear g6
                have g6 := o6
                clear o6
                generalize ((((U22x.setCell ⟨B7, 0, none⟩ (.int .u64 v0)).setCell ⟨B7, 1, none⟩ (.int .u64 v1)).setCell ⟨B7, 2, none⟩ (.int .u64 v2)).setCell ⟨B7, 3, none⟩ (.int .u64 v3)) = U22xx at g7 hSB g6 ⊢
                refine hK.out _ _ hSB (fun hS => wpAnyH_done (by kernel_rfl) ?_ _)
                clear hK K
                go_wp2_with fail
                go_meet
                exact ⟨B6, B7, rfl, rfl, g6, g7, hSB⟩
          · go_simp
            obtain ⟨B7, hBe⟩ : ∃ B7, B7 = U17.heap.size := ⟨_, rfl⟩
            have hZ7 : (U17.alloc (.cells #[.int .u64 0, .int .u64 0, .int .u64 0, .int .u64 0] 24)).heap[B7]? = some (.cells #[.int .u64 0, .int .u64 0, .int .u64 0, .int .u64 0] 24 (0, 0)) := by rw [hBe]; exact heap_new _ _
            have hL7 : wA.heap.size ≤ B7 := by rw [hBe]; exact hS.size
            have hSA : Below wA.heap.size wA (U17.alloc (.cells #[.int .u64 0, .int .u64 0, .int .u64 0, .int .u64 0] 24)) := hS.alloc hS.size _
            have hY6 : (U17.alloc (.cells #[.int .u64 0, .int .u64 0, .int .u64 0, .int .u64 0] 24)).heap[B6]? = _ := (heap_old _ _ (Array.getElem?_eq_some_iff.1 hZ6).1).trans hZ6
            clear hZ6
            have hZ6 := hY6
            clear hY6
            have hN76 : B6 ≠ B7 := by rw [hBe]; exact Nat.ne_of_lt (hLT6)
            rw [← hBe]
            have hLT7 : B7 < (U17.alloc (.cells #[.int .u64 0, .int .u64 0, .int .u64 0, .int .u64 0] 24)).heap.size := (Array.getElem?_eq_some_iff.1 hZ7).1
            have hQ6 : B6 < (U17.alloc (.cells #[.int .u64 0, .int .u64 0, .int .u64 0, .int .u64 0] 24)).heap.size := (Array.getElem?_eq_some_iff.1 hZ6).1
            clear hLT6
            have hLT6 := hQ6
            clear hQ6
            generalize (U17.alloc (.cells #[.int .u64 0, .int .u64 0, .int .u64 0, .int .u64 0] 24)) = U23 at hZ7 hZ6 hSA hLT7 hLT6 ⊢
            refine hK.out _ _ hSA (fun hS => ?_)
            clear hK K hSA hBe
            refine wpAnyH_ready (rs := [2]) (by kernel_rfl) (by simp) ?_
            refine AllReadyH.cons rfl (fun K hK => ?_) AllReadyH.nil
            · go_simp
              refine (Ck3.out _).mono ?_
              rintro e U24 ⟨rfl, hbc⟩
              refine hK.out _ _ (hS.trans (hbc.mono hS.size)) (fun hS => ?_)
              replace hZ6 := (hbc.block B6 (Array.getElem?_eq_some_iff.1 hZ6).1).trans hZ6
              replace hLT6 := (Array.getElem?_eq_some_iff.1 hZ6).1
              replace hZ7 := (hbc.block B7 (Array.getElem?_eq_some_iff.1 hZ7).1).trans hZ7
              replace hLT7 := (Array.getElem?_eq_some_iff.1 hZ7).1
              clear hK K hbc
              refine wpAnyH_ready (rs := [5]) (by kernel_rfl) (by simp) ?_
              refine AllReadyH.cons rfl (fun K hK => ?_) AllReadyH.nil
              · go_simp
                refine (Ck4.out _).mono ?_
                rintro e U25 ⟨rfl, hbc⟩
                refine hK.out _ _ (hS.trans (hbc.mono hS.size)) (fun hS => ?_)
                replace hZ6 := (hbc.block B6 (Array.getElem?_eq_some_iff.1 hZ6).1).trans hZ6
                replace hLT6 := (Array.getElem?_eq_some_iff.1 hZ6).1
                replace hZ7 := (hbc.block B7 (Array.getElem?_eq_some_iff.1 hZ7).1).trans hZ7
                replace hLT7 := (Array.getElem?_eq_some_iff.1 hZ7).1
                clear hK K hbc
                obtain ⟨a0, a1, a2, a3⟩ := cells4 hZ6
                have fa : ∀ o, U25.frozen? ⟨B6, o, none⟩ = false := fun o => blk_free hZ6
                refine wpAnyH_ready (rs := [8]) (by kernel_rfl) (by simp) (AllReadyH.cons rfl (fun K hK => ?_) AllReadyH.nil)
                go_simp
                have g6 := stored4 (z0 := .int .u64 u0) (z1 := .int .u64 u1) (z2 := .int .u64 u2) (z3 := .int .u64 u3) hZ6
                have hSB := below_stored4 (b := B6) (z0 := .int .u64 u0) (z1 := .int .u64 u1) (z2 := .int .u64 u2) (z3 := .int .u64 u3) hS hL6
                have o7 := (other4 (b := B6) (c := B7) (z0 := .int .u64 u0) (z1 := .int .u64 u1) (z2 := .int .u64 u2) (z3 := .int .u64 u3) (by first | exact hN76 | exact (hN76).symm | exact hN67 | exact (hN67).symm)).trans hZ7
                clear hZ7
                have hZ7 := o7
                clear o7
                generalize ((((U25.setCell ⟨B6, 0, none⟩ (.int .u64 u0)).setCell ⟨B6, 1, none⟩ (.int .u64 u1)).setCell ⟨B6, 2, none⟩ (.int .u64 u2)).setCell ⟨B6, 3, none⟩ (.int .u64 u3)) = U25x at g6 hSB hZ7 ⊢
                refine hK.out _ _ hSB (fun hS => ?_)
                clear hK K hSB a0 a1 a2 a3 fa hZ6
                obtain ⟨a0, a1, a2, a3⟩ := cells4 hZ7
                have fa : ∀ o, U25x.frozen? ⟨B7, o, none⟩ = false := fun o => blk_free hZ7
                refine wpAnyH_ready (rs := [9]) (by kernel_rfl) (by simp) (AllReadyH.cons rfl (fun K hK => ?_) AllReadyH.nil)
                go_simp
                have g7 := stored4 (z0 := .int .u64 v0) (z1 := .int .u64 v1) (z2 := .int .u64 v2) (z3 := .int .u64 v3) hZ7
                have hSB := below_stored4 (b := B7) (z0 := .int .u64 v0) (z1 := .int .u64 v1) (z2 := .int .u64 v2) (z3 := .int .u64 v3) hS hL7
                have o6 := (other4 (b := B7) (c := B6) (z0 := .int .u64 v0) (z1 := .int .u64 v1) (z2 := .int .u64 v2) (z3 := .int .u64 v3) (by first | exact hN67 | exact (hN67).symm | exact hN76 | exact (hN76).symm)).trans g6
                clear g6
                have g6 := o6
                clear o6
                generalize ((((U25x.setCell ⟨B7, 0, none⟩ (.int .u64 v0)).setCell ⟨B7, 1, none⟩ (.int .u64 v1)).setCell ⟨B7, 2, none⟩ (.int .u64 v2)).setCell ⟨B7, 3, none⟩ (.int .u64 v3)) = U25xx at g7 hSB g6 ⊢
                refine hK.out _ _ hSB (fun hS => wpAnyH_done (by kernel_rfl) ?_ _)
                clear hK K
                go_wp2_with fail
                go_meet
                exact ⟨B6, B7, rfl, rfl, g6, g7, hSB⟩
        · go_simp
          obtain ⟨B7, hBe⟩ : ∃ B7, B7 = wA.heap.size := ⟨_, rfl⟩
          have hZ7 : (wA.alloc (.cells #[.int .u64 0, .int .u64 0, .int .u64 0, .int .u64 0] 24)).drew.heap[B7]? = some (.cells #[.int .u64 0, .int .u64 0, .int .u64 0, .int .u64 0] 24 (0, 0)) := by rw [hBe]; exact heap_new _ _
          have hL7 : wA.heap.size ≤ B7 := by rw [hBe]; exact Nat.le_refl _
          have hSA : Below wA.heap.size wA (wA.alloc (.cells #[.int .u64 0, .int .u64 0, .int .u64 0, .int .u64 0] 24)).drew := ((Below.refl _ wA).alloc (Nat.le_refl _) _).drew
          rw [← hBe]
          have hLT7 : B7 < (wA.alloc (.cells #[.int .u64 0, .int .u64 0, .int .u64 0, .int .u64 0] 24)).drew.heap.size := (Array.getElem?_eq_some_iff.1 hZ7).1
          generalize (wA.alloc (.cells #[.int .u64 0, .int .u64 0, .int .u64 0, .int .u64 0] 24)).drew = U26 at hZ7  hSA hLT7  ⊢
          refine hK.out _ _ hSA (fun hS => ?_)
          clear hK K hSA hBe
          refine wpAnyH_ready (rs := [2, 6]) (by kernel_rfl) (by simp) ?_
          refine AllReadyH.cons rfl (fun K hK => ?_) (AllReadyH.cons rfl (fun K hK => ?_) AllReadyH.nil)
          · go_simp
            refine (Ck3.out _).mono ?_
            rintro e U27 ⟨rfl, hbc⟩
            refine hK.out _ _ (hS.trans (hbc.mono hS.size)) (fun hS => ?_)
            replace hZ7 := (hbc.block B7 (Array.getElem?_eq_some_iff.1 hZ7).1).trans hZ7
            replace hLT7 := (Array.getElem?_eq_some_iff.1 hZ7).1
            clear hK K hbc
            refine wpAnyH_ready (rs := [5, 6]) (by kernel_rfl) (by simp) ?_
            refine AllReadyH.cons rfl (fun K hK => ?_) (AllReadyH.cons rfl (fun K hK => ?_) AllReadyH.nil)
            · go_simp
              refine (Ck4.out _).mono ?_
              rintro e U28 ⟨rfl, hbc⟩
              refine hK.out _ _ (hS.trans (hbc.mono hS.size)) (fun hS => ?_)
              replace hZ7 := (hbc.block B7 (Array.getElem?_eq_some_iff.1 hZ7).1).trans hZ7
              replace hLT7 := (Array.getElem?_eq_some_iff.1 hZ7).1
              clear hK K hbc
              refine wpAnyH_ready (rs := [6]) (by kernel_rfl) (by simp) ?_
              refine AllReadyH.cons rfl (fun K hK => ?_) AllReadyH.nil
              · go_simp
                obtain ⟨B6, hBe⟩ : ∃ B6, B6 = U28.heap.size := ⟨_, rfl⟩
                have hZ6 : (U28.alloc (.cells #[.int .u64 0, .int .u64 0, .int .u64 0, .int .u64 0] 24)).heap[B6]? = some (.cells #[.int .u64 0, .int .u64 0, .int .u64 0, .int .u64 0] 24 (0, 0)) := by rw [hBe]; exact heap_new _ _
                have hL6 : wA.heap.size ≤ B6 := by rw [hBe]; exact hS.size
                have hSA : Below wA.heap.size wA (U28.alloc (.cells #[.int .u64 0, .int .u64 0, .int .u64 0, .int .u64 0] 24)) := hS.alloc hS.size _
                have hY7 : (U28.alloc (.cells #[.int .u64 0, .int .u64 0, .int .u64 0, .int .u64 0] 24)).heap[B7]? = _ := (heap_old _ _ (Array.getElem?_eq_some_iff.1 hZ7).1).trans hZ7
                clear hZ7
                have hZ7 := hY7
                clear hY7
                have hN67 : B7 ≠ B6 := by rw [hBe]; exact Nat.ne_of_lt (hLT7)
                rw [← hBe]
                have hLT6 : B6 < (U28.alloc (.cells #[.int .u64 0, .int .u64 0, .int .u64 0, .int .u64 0] 24)).heap.size := (Array.getElem?_eq_some_iff.1 hZ6).1
                have hQ7 : B7 < (U28.alloc (.cells #[.int .u64 0, .int .u64 0, .int .u64 0, .int .u64 0] 24)).heap.size := (Array.getElem?_eq_some_iff.1 hZ7).1
                clear hLT7
                have hLT7 := hQ7
                clear hQ7
                generalize (U28.alloc (.cells #[.int .u64 0, .int .u64 0, .int .u64 0, .int .u64 0] 24)) = U29 at hZ6 hZ7 hSA hLT6 hLT7 ⊢
                refine hK.out _ _ hSA (fun hS => ?_)
                clear hK K hSA hBe
                obtain ⟨a0, a1, a2, a3⟩ := cells4 hZ6
                have fa : ∀ o, U29.frozen? ⟨B6, o, none⟩ = false := fun o => blk_free hZ6
                refine wpAnyH_ready (rs := [8]) (by kernel_rfl) (by simp) (AllReadyH.cons rfl (fun K hK => ?_) AllReadyH.nil)
                go_simp
                have g6 := stored4 (z0 := .int .u64 u0) (z1 := .int .u64 u1) (z2 := .int .u64 u2) (z3 := .int .u64 u3) hZ6
                have hSB := below_stored4 (b := B6) (z0 := .int .u64 u0) (z1 := .int .u64 u1) (z2 := .int .u64 u2) (z3 := .int .u64 u3) hS hL6
                have o7 := (other4 (b := B6) (c := B7) (z0 := .int .u64 u0) (z1 := .int .u64 u1) (z2 := .int .u64 u2) (z3 := .int .u64 u3) (by first | exact hN76 | exact (hN76).symm | exact hN67 | exact (hN67).symm)).trans hZ7
                clear hZ7
                have hZ7 := o7
                clear o7
                generalize ((((U29.setCell ⟨B6, 0, none⟩ (.int .u64 u0)).setCell ⟨B6, 1, none⟩ (.int .u64 u1)).setCell ⟨B6, 2, none⟩ (.int .u64 u2)).setCell ⟨B6, 3, none⟩ (.int .u64 u3)) = U29x at g6 hSB hZ7 ⊢
                refine hK.out _ _ hSB (fun hS => ?_)
                clear hK K hSB a0 a1 a2 a3 fa hZ6
                obtain ⟨a0, a1, a2, a3⟩ := cells4 hZ7
                have fa : ∀ o, U29x.frozen? ⟨B7, o, none⟩ = false := fun o => blk_free hZ7
                refine wpAnyH_ready (rs := [9]) (by kernel_rfl) (by simp) (AllReadyH.cons rfl (fun K hK => ?_) AllReadyH.nil)
                go_simp
                have g7 := stored4 (z0 := .int .u64 v0) (z1 := .int .u64 v1) (z2 := .int .u64 v2) (z3 := .int .u64 v3) hZ7
                have hSB := below_stored4 (b := B7) (z0 := .int .u64 v0) (z1 := .int .u64 v1) (z2 := .int .u64 v2) (z3 := .int .u64 v3) hS hL7
                have o6 := (other4 (b := B7) (c := B6) (z0 := .int .u64 v0) (z1 := .int .u64 v1) (z2 := .int .u64 v2) (z3 := .int .u64 v3) (by first | exact hN67 | exact (hN67).symm | exact hN76 | exact (hN76).symm)).trans g6
                clear g6
                have g6 := o6
                clear o6
                generalize ((((U29x.setCell ⟨B7, 0, none⟩ (.int .u64 v0)).setCell ⟨B7, 1, none⟩ (.int .u64 v1)).setCell ⟨B7, 2, none⟩ (.int .u64 v2)).setCell ⟨B7, 3, none⟩ (.int .u64 v3)) = U29xx at g7 hSB g6 ⊢
                refine hK.out _ _ hSB (fun hS => wpAnyH_done (by kernel_rfl) ?_ _)
                clear hK K
                go_wp2_with fail
                go_meet
                exact ⟨B6, B7, rfl, rfl, g6, g7, hSB⟩
            · go_simp
              obtain ⟨B6, hBe⟩ : ∃ B6, B6 = U27.heap.size := ⟨_, rfl⟩
              have hZ6 : (U27.alloc (.cells #[.int .u64 0, .int .u64 0, .int .u64 0, .int .u64 0] 24)).heap[B6]? = some (.cells #[.int .u64 0, .int .u64 0, .int .u64 0, .int .u64 0] 24 (0, 0)) := by rw [hBe]; exact heap_new _ _
              have hL6 : wA.heap.size ≤ B6 := by rw [hBe]; exact hS.size
              have hSA : Below wA.heap.size wA (U27.alloc (.cells #[.int .u64 0, .int .u64 0, .int .u64 0, .int .u64 0] 24)) := hS.alloc hS.size _
              have hY7 : (U27.alloc (.cells #[.int .u64 0, .int .u64 0, .int .u64 0, .int .u64 0] 24)).heap[B7]? = _ := (heap_old _ _ (Array.getElem?_eq_some_iff.1 hZ7).1).trans hZ7
              clear hZ7
              have hZ7 := hY7
              clear hY7
              have hN67 : B7 ≠ B6 := by rw [hBe]; exact Nat.ne_of_lt (hLT7)
              rw [← hBe]
              have hLT6 : B6 < (U27.alloc (.cells #[.int .u64 0, .int .u64 0, .int .u64 0, .int .u64 0] 24)).heap.size := (Array.getElem?_eq_some_iff.1 hZ6).1
              have hQ7 : B7 < (U27.alloc (.cells #[.int .u64 0, .int .u64 0, .int .u64 0, .int .u64 0] 24)).heap.size := (Array.getElem?_eq_some_iff.1 hZ7).1
              clear hLT7
              have hLT7 := hQ7
              clear hQ7
              generalize (U27.alloc (.cells #[.int .u64 0, .int .u64 0, .int .u64 0, .int .u64 0] 24)) = U30 at hZ6 hZ7 hSA hLT6 hLT7 ⊢
              refine hK.out _ _ hSA (fun hS => ?_)
              clear hK K hSA hBe
              refine wpAnyH_ready (rs := [5]) (by kernel_rfl) (by simp) ?_
              refine AllReadyH.cons rfl (fun K hK => ?_) AllReadyH.nil
              · go_simp
                refine (Ck4.out _).mono ?_
                rintro e U31 ⟨rfl, hbc⟩
                refine hK.out _ _ (hS.trans (hbc.mono hS.size)) (fun hS => ?_)
                replace hZ7 := (hbc.block B7 (Array.getElem?_eq_some_iff.1 hZ7).1).trans hZ7
                replace hLT7 := (Array.getElem?_eq_some_iff.1 hZ7).1
                replace hZ6 := (hbc.block B6 (Array.getElem?_eq_some_iff.1 hZ6).1).trans hZ6
                replace hLT6 := (Array.getElem?_eq_some_iff.1 hZ6).1
                clear hK K hbc
                obtain ⟨a0, a1, a2, a3⟩ := cells4 hZ6
                have fa : ∀ o, U31.frozen? ⟨B6, o, none⟩ = false := fun o => blk_free hZ6
                refine wpAnyH_ready (rs := [8]) (by kernel_rfl) (by simp) (AllReadyH.cons rfl (fun K hK => ?_) AllReadyH.nil)
                go_simp
                have g6 := stored4 (z0 := .int .u64 u0) (z1 := .int .u64 u1) (z2 := .int .u64 u2) (z3 := .int .u64 u3) hZ6
                have hSB := below_stored4 (b := B6) (z0 := .int .u64 u0) (z1 := .int .u64 u1) (z2 := .int .u64 u2) (z3 := .int .u64 u3) hS hL6
                have o7 := (other4 (b := B6) (c := B7) (z0 := .int .u64 u0) (z1 := .int .u64 u1) (z2 := .int .u64 u2) (z3 := .int .u64 u3) (by first | exact hN76 | exact (hN76).symm | exact hN67 | exact (hN67).symm)).trans hZ7
                clear hZ7
                have hZ7 := o7
                clear o7
                generalize ((((U31.setCell ⟨B6, 0, none⟩ (.int .u64 u0)).setCell ⟨B6, 1, none⟩ (.int .u64 u1)).setCell ⟨B6, 2, none⟩ (.int .u64 u2)).setCell ⟨B6, 3, none⟩ (.int .u64 u3)) = U31x at g6 hSB hZ7 ⊢
                refine hK.out _ _ hSB (fun hS => ?_)
                clear hK K hSB a0 a1 a2 a3 fa hZ6
                obtain ⟨a0, a1, a2, a3⟩ := cells4 hZ7
                have fa : ∀ o, U31x.frozen? ⟨B7, o, none⟩ = false := fun o => blk_free hZ7
                refine wpAnyH_ready (rs := [9]) (by kernel_rfl) (by simp) (AllReadyH.cons rfl (fun K hK => ?_) AllReadyH.nil)
                go_simp
                have g7 := stored4 (z0 := .int .u64 v0) (z1 := .int .u64 v1) (z2 := .int .u64 v2) (z3 := .int .u64 v3) hZ7
                have hSB := below_stored4 (b := B7) (z0 := .int .u64 v0) (z1 := .int .u64 v1) (z2 := .int .u64 v2) (z3 := .int .u64 v3) hS hL7
                have o6 := (other4 (b := B7) (c := B6) (z0 := .int .u64 v0) (z1 := .int .u64 v1) (z2 := .int .u64 v2) (z3 := .int .u64 v3) (by first | exact hN67 | exact (hN67).symm | exact hN76 | exact (hN76).symm)).trans g6
                clear g6
                have g6 := o6
                clear o6
                generalize ((((U31x.setCell ⟨B7, 0, none⟩ (.int .u64 v0)).setCell ⟨B7, 1, none⟩ (.int .u64 v1)).setCell ⟨B7, 2, none⟩ (.int .u64 v2)).setCell ⟨B7, 3, none⟩ (.int .u64 v3)) = U31xx at g7 hSB g6 ⊢
                refine hK.out _ _ hSB (fun hS => wpAnyH_done (by kernel_rfl) ?_ _)
                clear hK K
                go_wp2_with fail
                go_meet
                exact ⟨B6, B7, rfl, rfl, g6, g7, hSB⟩
          · go_simp
            obtain ⟨B6, hBe⟩ : ∃ B6, B6 = U26.heap.size := ⟨_, rfl⟩
            have hZ6 : (U26.alloc (.cells #[.int .u64 0, .int .u64 0, .int .u64 0, .int .u64 0] 24)).heap[B6]? = some (.cells #[.int .u64 0, .int .u64 0, .int .u64 0, .int .u64 0] 24 (0, 0)) := by rw [hBe]; exact heap_new _ _
            have hL6 : wA.heap.size ≤ B6 := by rw [hBe]; exact hS.size
            have hSA : Below wA.heap.size wA (U26.alloc (.cells #[.int .u64 0, .int .u64 0, .int .u64 0, .int .u64 0] 24)) := hS.alloc hS.size _
            have hY7 : (U26.alloc (.cells #[.int .u64 0, .int .u64 0, .int .u64 0, .int .u64 0] 24)).heap[B7]? = _ := (heap_old _ _ (Array.getElem?_eq_some_iff.1 hZ7).1).trans hZ7
            clear hZ7
            have hZ7 := hY7
            clear hY7
            have hN67 : B7 ≠ B6 := by rw [hBe]; exact Nat.ne_of_lt (hLT7)
            rw [← hBe]
            have hLT6 : B6 < (U26.alloc (.cells #[.int .u64 0, .int .u64 0, .int .u64 0, .int .u64 0] 24)).heap.size := (Array.getElem?_eq_some_iff.1 hZ6).1
            have hQ7 : B7 < (U26.alloc (.cells #[.int .u64 0, .int .u64 0, .int .u64 0, .int .u64 0] 24)).heap.size := (Array.getElem?_eq_some_iff.1 hZ7).1
            clear hLT7
            have hLT7 := hQ7
            clear hQ7
            generalize (U26.alloc (.cells #[.int .u64 0, .int .u64 0, .int .u64 0, .int .u64 0] 24)) = U32 at hZ6 hZ7 hSA hLT6 hLT7 ⊢
            refine hK.out _ _ hSA (fun hS => ?_)
            clear hK K hSA hBe
            refine wpAnyH_ready (rs := [2]) (by kernel_rfl) (by simp) ?_
            refine AllReadyH.cons rfl (fun K hK => ?_) AllReadyH.nil
            · go_simp
              refine (Ck3.out _).mono ?_
              rintro e U33 ⟨rfl, hbc⟩
              refine hK.out _ _ (hS.trans (hbc.mono hS.size)) (fun hS => ?_)
              replace hZ7 := (hbc.block B7 (Array.getElem?_eq_some_iff.1 hZ7).1).trans hZ7
              replace hLT7 := (Array.getElem?_eq_some_iff.1 hZ7).1
              replace hZ6 := (hbc.block B6 (Array.getElem?_eq_some_iff.1 hZ6).1).trans hZ6
              replace hLT6 := (Array.getElem?_eq_some_iff.1 hZ6).1
              clear hK K hbc
              refine wpAnyH_ready (rs := [5]) (by kernel_rfl) (by simp) ?_
              refine AllReadyH.cons rfl (fun K hK => ?_) AllReadyH.nil
              · go_simp
                refine (Ck4.out _).mono ?_
                rintro e U34 ⟨rfl, hbc⟩
                refine hK.out _ _ (hS.trans (hbc.mono hS.size)) (fun hS => ?_)
                replace hZ7 := (hbc.block B7 (Array.getElem?_eq_some_iff.1 hZ7).1).trans hZ7
                replace hLT7 := (Array.getElem?_eq_some_iff.1 hZ7).1
                replace hZ6 := (hbc.block B6 (Array.getElem?_eq_some_iff.1 hZ6).1).trans hZ6
                replace hLT6 := (Array.getElem?_eq_some_iff.1 hZ6).1
                clear hK K hbc
                obtain ⟨a0, a1, a2, a3⟩ := cells4 hZ6
                have fa : ∀ o, U34.frozen? ⟨B6, o, none⟩ = false := fun o => blk_free hZ6
                refine wpAnyH_ready (rs := [8]) (by kernel_rfl) (by simp) (AllReadyH.cons rfl (fun K hK => ?_) AllReadyH.nil)
                go_simp
                have g6 := stored4 (z0 := .int .u64 u0) (z1 := .int .u64 u1) (z2 := .int .u64 u2) (z3 := .int .u64 u3) hZ6
                have hSB := below_stored4 (b := B6) (z0 := .int .u64 u0) (z1 := .int .u64 u1) (z2 := .int .u64 u2) (z3 := .int .u64 u3) hS hL6
                have o7 := (other4 (b := B6) (c := B7) (z0 := .int .u64 u0) (z1 := .int .u64 u1) (z2 := .int .u64 u2) (z3 := .int .u64 u3) (by first | exact hN76 | exact (hN76).symm | exact hN67 | exact (hN67).symm)).trans hZ7
                clear hZ7
                have hZ7 := o7
                clear o7
                generalize ((((U34.setCell ⟨B6, 0, none⟩ (.int .u64 u0)).setCell ⟨B6, 1, none⟩ (.int .u64 u1)).setCell ⟨B6, 2, none⟩ (.int .u64 u2)).setCell ⟨B6, 3, none⟩ (.int .u64 u3)) = U34x at g6 hSB hZ7 ⊢
                refine hK.out _ _ hSB (fun hS => ?_)
                clear hK K hSB a0 a1 a2 a3 fa hZ6
                obtain ⟨a0, a1, a2, a3⟩ := cells4 hZ7
                have fa : ∀ o, U34x.frozen? ⟨B7, o, none⟩ = false := fun o => blk_free hZ7
                refine wpAnyH_ready (rs := [9]) (by kernel_rfl) (by simp) (AllReadyH.cons rfl (fun K hK => ?_) AllReadyH.nil)
                go_simp
                have g7 := stored4 (z0 := .int .u64 v0) (z1 := .int .u64 v1) (z2 := .int .u64 v2) (z3 := .int .u64 v3) hZ7
                have hSB := below_stored4 (b := B7) (z0 := .int .u64 v0) (z1 := .int .u64 v1) (z2 := .int .u64 v2) (z3 := .int .u64 v3) hS hL7
                have o6 := (other4 (b := B7) (c := B6) (z0 := .int .u64 v0) (z1 := .int .u64 v1) (z2 := .int .u64 v2) (z3 := .int .u64 v3) (by first | exact hN67 | exact (hN67).symm | exact hN76 | exact (hN76).symm)).trans g6
                clear g6
                have g6 := o6
                clear o6
                generalize ((((U34x.setCell ⟨B7, 0, none⟩ (.int .u64 v0)).setCell ⟨B7, 1, none⟩ (.int .u64 v1)).setCell ⟨B7, 2, none⟩ (.int .u64 v2)).setCell ⟨B7, 3, none⟩ (.int .u64 v3)) = U34xx at g7 hSB g6 ⊢
                refine hK.out _ _ hSB (fun hS => wpAnyH_done (by kernel_rfl) ?_ _)
                clear hK K
                go_wp2_with fail
                go_meet
                exact ⟨B6, B7, rfl, rfl, g6, g7, hSB⟩
      case rest =>
        clear cx0 cx1 cx2 cx3 hlx
        clear cy0 cy1 cy2 cy3 hly
        clear cn0 cn1 cn2 cn3 hln
        obtain ⟨D, E, rfl, rfl, gu, gv, hbx⟩ := hcut
        replace HBx : Hid (wc.heap[w.heap.size]? = some (.cells #[.int .u64 x0, .int .u64 x1, .int .u64 x2, .int .u64 x3] 24 (0, 0))) := (hbx.block _ (Array.getElem?_eq_some_iff.1 HBx.out).1).trans HBx.out
        replace HBy : Hid (wc.heap[w.heap.size + 1]? = some (.cells #[.int .u64 y0, .int .u64 y1, .int .u64 y2, .int .u64 y3] 24 (0, 0))) := (hbx.block _ (Array.getElem?_eq_some_iff.1 HBy.out).1).trans HBy.out
        replace HBn : Hid (wc.heap[w.heap.size + 1 + 1]? = some (.cells #[.int .u64 n0, .int .u64 n1, .int .u64 n2, .int .u64 n3] 24 (0, 0))) := (hbx.block _ (Array.getElem?_eq_some_iff.1 HBn.out).1).trans HBn.out
        replace HBm : Hid (wc.heap[B]? = some (.cells #[.int .u64 m0, .int .u64 m1, .int .u64 m2, .int .u64 m3] 24 (0, 0))) := (hbx.block _ (Array.getElem?_eq_some_iff.1 HBm.out).1).trans HBm.out
        replace HBd : Hid (wc.heap[C]? = some (.cells #[.int .u64 d0, .int .u64 d1, .int .u64 d2, .int .u64 d3] 24 (0, 0))) := (hbx.block _ (Array.getElem?_eq_some_iff.1 HBd.out).1).trans HBd.out
        replace HBW : Hid (Below w.heap.size w wc) := HBW.out.trans (hbx.mono HBW.out.size)
        have HBu := hideP gu
        have HBv := hideP gv
        clear gu gv hbx
        obtain ⟨cx0, cx1, cx2, cx3⟩ := cells4 HBx.out
        have hlx := (Array.getElem?_eq_some_iff.1 HBx.out).1
        obtain ⟨cy0, cy1, cy2, cy3⟩ := cells4 HBy.out
        have hly := (Array.getElem?_eq_some_iff.1 HBy.out).1
        obtain ⟨cn0, cn1, cn2, cn3⟩ := cells4 HBn.out
        have hln := (Array.getElem?_eq_some_iff.1 HBn.out).1
        obtain ⟨cm0, cm1, cm2, cm3⟩ := cells4 HBm.out
        have hlm := (Array.getElem?_eq_some_iff.1 HBm.out).1
        obtain ⟨cd0, cd1, cd2, cd3⟩ := cells4 HBd.out
        have hld := (Array.getElem?_eq_some_iff.1 HBd.out).1
        obtain ⟨cu0, cu1, cu2, cu3⟩ := cells4 HBu.out
        have hlu := (Array.getElem?_eq_some_iff.1 HBu.out).1
        obtain ⟨cv0, cv1, cv2, cv3⟩ := cells4 HBv.out
        have hlv := (Array.getElem?_eq_some_iff.1 HBv.out).1
        go_wp2_with fail
        refine wp_region_heldS (S := fun V => Below wc.heap.size wc V) (by kernel_rfl) (Below.refl _ _).drew (fun hS => ?_)
        refine wpAnyH_takeL (i := 0) (v := ?_) rfl (by kernel_rfl) (by kernel_rfl) (by kernel_rfl) (fun _ _ _ h => h) (Or.inl ⟨by kernel_rfl, ?_⟩) hS ?_
        rotate_left
        · intro V hV
          have k0 := (hV.cell (p := ⟨B, 0, none⟩) hlm).trans cm0
          have k1 := (hV.cell (p := ⟨B, 1, none⟩) hlm).trans cm1
          have k2 := (hV.cell (p := ⟨B, 2, none⟩) hlm).trans cm2
          have k3 := (hV.cell (p := ⟨B, 3, none⟩) hlm).trans cm3
          go_simp
          (try with_reducible rfl)
        simp only [put_list, List.set_cons_succ, List.set_cons_zero]
        refine wpAnyH_takeL (i := 1) (v := ?_) rfl (by kernel_rfl) (by kernel_rfl) (by kernel_rfl) (fun _ _ _ h => h) (Or.inl ⟨by kernel_rfl, ?_⟩) hS ?_
        rotate_left
        · intro V hV
          have k0 := (hV.cell (p := ⟨w.heap.size + 1 + 1, 0, none⟩) hln).trans cn0
          have k1 := (hV.cell (p := ⟨w.heap.size + 1 + 1, 1, none⟩) hln).trans cn1
          have k2 := (hV.cell (p := ⟨w.heap.size + 1 + 1, 2, none⟩) hln).trans cn2
          have k3 := (hV.cell (p := ⟨w.heap.size + 1 + 1, 3, none⟩) hln).trans cn3
          go_simp
          (try with_reducible rfl)
        simp only [put_list, List.set_cons_succ, List.set_cons_zero]
        refine wpAnyH_ready (rs := [2]) (by kernel_rfl) (by simp) (AllReadyH.cons rfl (fun K hK => ?_) AllReadyH.nil)
        go_simp
        refine (Ck5.out _).mono ?_
        rintro e U1 ⟨rfl, hbc⟩
        refine hK.out _ _ (hS.trans (hbc.mono hS.size)) (fun hS => ?_)
        clear hK K hbc
        refine wpAnyH_takeL (i := 3) (v := ?_) rfl (by kernel_rfl) (by kernel_rfl) (by kernel_rfl) (fun _ _ _ h => h) (Or.inl ⟨by kernel_rfl, ?_⟩) hS ?_
        rotate_left
        · intro V hV
          go_simp
          (try with_reducible rfl)
        simp only [put_list, List.set_cons_succ, List.set_cons_zero]
        refine wpAnyH_takeL (i := 4) (v := ?_) rfl (by kernel_rfl) (by kernel_rfl) (by kernel_rfl) (fun _ _ _ h => h) (Or.inl ⟨by kernel_rfl, ?_⟩) hS ?_
        rotate_left
        · intro V hV
          go_simp
          (try with_reducible rfl)
        simp only [put_list, List.set_cons_succ, List.set_cons_zero]
        refine wpAnyH_takeL (i := 5) (v := ?_) rfl (by kernel_rfl) (by kernel_rfl) (by kernel_rfl) (fun _ _ _ h => h) (Or.inl ⟨by kernel_rfl, ?_⟩) hS ?_
        rotate_left
        · intro V hV
          have k0 := (hV.cell (p := ⟨C, 0, none⟩) hld).trans cd0
          have k1 := (hV.cell (p := ⟨C, 1, none⟩) hld).trans cd1
          have k2 := (hV.cell (p := ⟨C, 2, none⟩) hld).trans cd2
          have k3 := (hV.cell (p := ⟨C, 3, none⟩) hld).trans cd3
          go_simp
          (try with_reducible rfl)
        simp only [put_list, List.set_cons_succ, List.set_cons_zero]
        refine wpAnyH_takeL (i := 6) (v := ?_) rfl (by kernel_rfl) (by kernel_rfl) (by kernel_rfl) (fun _ _ _ h => h) (Or.inl ⟨by kernel_rfl, ?_⟩) hS ?_
        rotate_left
        · intro V hV
          have k0 := (hV.cell (p := ⟨w.heap.size + 1 + 1, 0, none⟩) hln).trans cn0
          have k1 := (hV.cell (p := ⟨w.heap.size + 1 + 1, 1, none⟩) hln).trans cn1
          have k2 := (hV.cell (p := ⟨w.heap.size + 1 + 1, 2, none⟩) hln).trans cn2
          have k3 := (hV.cell (p := ⟨w.heap.size + 1 + 1, 3, none⟩) hln).trans cn3
          go_simp
          (try with_reducible rfl)
        simp only [put_list, List.set_cons_succ, List.set_cons_zero]
        refine wpAnyH_ready (rs := [7]) (by kernel_rfl) (by simp) (AllReadyH.cons rfl (fun K hK => ?_) AllReadyH.nil)
        go_simp
        refine (Ck6.out _).mono ?_
        rintro e U2 ⟨rfl, hbc⟩
        refine hK.out _ _ (hS.trans (hbc.mono hS.size)) (fun hS => ?_)
        clear hK K hbc
        refine wpAnyH_takeL (i := 8) (v := ?_) rfl (by kernel_rfl) (by kernel_rfl) (by kernel_rfl) (fun _ _ _ h => h) (Or.inl ⟨by kernel_rfl, ?_⟩) hS ?_
        rotate_left
        · intro V hV
          go_simp
          (try with_reducible rfl)
        simp only [put_list, List.set_cons_succ, List.set_cons_zero]
        refine wpAnyH_takeL (i := 9) (v := ?_) rfl (by kernel_rfl) (by kernel_rfl) (by kernel_rfl) (fun _ _ _ h => h) (Or.inl ⟨by kernel_rfl, ?_⟩) hS ?_
        rotate_left
        · intro V hV
          go_simp
          (try with_reducible rfl)
        simp only [put_list, List.set_cons_succ, List.set_cons_zero]
        refine wpAnyH_takeL (i := 10) (v := ?_) rfl (by kernel_rfl) (by kernel_rfl) (by kernel_rfl) (fun _ _ _ h => h) (Or.inl ⟨by kernel_rfl, ?_⟩) hS ?_
        rotate_left
        · intro V hV
          go_simp
          (try with_reducible rfl)
        simp only [put_list, List.set_cons_succ, List.set_cons_zero]
        refine wpAnyH_takeL (i := 11) (v := ?_) rfl (by kernel_rfl) (by kernel_rfl) (by kernel_rfl) (fun _ _ _ h => h) (Or.inl ⟨by kernel_rfl, ?_⟩) hS ?_
        rotate_left
        · intro V hV
          have k0 := (hV.cell (p := ⟨B, 0, none⟩) hlm).trans cm0
          have k1 := (hV.cell (p := ⟨B, 1, none⟩) hlm).trans cm1
          have k2 := (hV.cell (p := ⟨B, 2, none⟩) hlm).trans cm2
          have k3 := (hV.cell (p := ⟨B, 3, none⟩) hlm).trans cm3
          go_simp
          (try with_reducible rfl)
        simp only [put_list, List.set_cons_succ, List.set_cons_zero]
        refine wpAnyH_takeL (i := 12) (v := ?_) rfl (by kernel_rfl) (by kernel_rfl) (by kernel_rfl) (fun _ _ _ h => h) (Or.inl ⟨by kernel_rfl, ?_⟩) hS ?_
        rotate_left
        · intro V hV
          have k0 := (hV.cell (p := ⟨D, 0, none⟩) hlu).trans cu0
          have k1 := (hV.cell (p := ⟨D, 1, none⟩) hlu).trans cu1
          have k2 := (hV.cell (p := ⟨D, 2, none⟩) hlu).trans cu2
          have k3 := (hV.cell (p := ⟨D, 3, none⟩) hlu).trans cu3
          go_simp
          (try with_reducible rfl)
        simp only [put_list, List.set_cons_succ, List.set_cons_zero]
        refine wpAnyH_takeL (i := 13) (v := ?_) rfl (by kernel_rfl) (by kernel_rfl) (by kernel_rfl) (fun _ _ _ h => h) (Or.inl ⟨by kernel_rfl, ?_⟩) hS ?_
        rotate_left
        · intro V hV
          have k0 := (hV.cell (p := ⟨E, 0, none⟩) hlv).trans cv0
          have k1 := (hV.cell (p := ⟨E, 1, none⟩) hlv).trans cv1
          have k2 := (hV.cell (p := ⟨E, 2, none⟩) hlv).trans cv2
          have k3 := (hV.cell (p := ⟨E, 3, none⟩) hlv).trans cv3
          go_simp
          (try with_reducible rfl)
        simp only [put_list, List.set_cons_succ, List.set_cons_zero]
        refine wpAnyH_takeL (i := 14) (v := ?_) rfl (by kernel_rfl) (by kernel_rfl) (by kernel_rfl) (fun _ _ _ h => h) (Or.inl ⟨by kernel_rfl, ?_⟩) hS ?_
        rotate_left
        · intro V hV
          have k0 := (hV.cell (p := ⟨w.heap.size + 1 + 1, 0, none⟩) hln).trans cn0
          have k1 := (hV.cell (p := ⟨w.heap.size + 1 + 1, 1, none⟩) hln).trans cn1
          have k2 := (hV.cell (p := ⟨w.heap.size + 1 + 1, 2, none⟩) hln).trans cn2
          have k3 := (hV.cell (p := ⟨w.heap.size + 1 + 1, 3, none⟩) hln).trans cn3
          go_simp
          (try with_reducible rfl)
        simp only [put_list, List.set_cons_succ, List.set_cons_zero]
        refine wpAnyH_ready (rs := [15]) (by kernel_rfl) (by simp) (AllReadyH.cons rfl (fun K hK => ?_) AllReadyH.nil)
        go_simp
        refine (Ck7.out _).mono ?_
        rintro e U3 ⟨rfl, hbc⟩
        refine hK.out _ _ (hS.trans (hbc.mono hS.size)) (fun hS => ?_)
        clear hK K hbc
        refine wpAnyH_takeL (i := 16) (v := ?_) rfl (by kernel_rfl) (by kernel_rfl) (by kernel_rfl) (fun _ _ _ h => h) (Or.inl ⟨by kernel_rfl, ?_⟩) hS ?_
        rotate_left
        · intro V hV
          go_simp
          (try with_reducible rfl)
        simp only [put_list, List.set_cons_succ, List.set_cons_zero]
        refine wpAnyH_takeL (i := 17) (v := ?_) rfl (by kernel_rfl) (by kernel_rfl) (by kernel_rfl) (fun _ _ _ h => h) (Or.inl ⟨by kernel_rfl, ?_⟩) hS ?_
        rotate_left
        · intro V hV
          go_simp
          (try with_reducible rfl)
        simp only [put_list, List.set_cons_succ, List.set_cons_zero]
        refine wpAnyH_takeL (i := 18) (v := ?_) rfl (by kernel_rfl) (by kernel_rfl) (by kernel_rfl) (fun _ _ _ h => h) (Or.inl ⟨by kernel_rfl, ?_⟩) hS ?_
        rotate_left
        · intro V hV
          go_simp
          (try with_reducible rfl)
        simp only [put_list, List.set_cons_succ, List.set_cons_zero]
        refine wpAnyH_takeL (i := 19) (v := ?_) rfl (by kernel_rfl) (by kernel_rfl) (by kernel_rfl) (fun _ _ _ h => h) (Or.inl ⟨by kernel_rfl, ?_⟩) hS ?_
        rotate_left
        · intro V hV
          have k0 := (hV.cell (p := ⟨C, 0, none⟩) hld).trans cd0
          have k1 := (hV.cell (p := ⟨C, 1, none⟩) hld).trans cd1
          have k2 := (hV.cell (p := ⟨C, 2, none⟩) hld).trans cd2
          have k3 := (hV.cell (p := ⟨C, 3, none⟩) hld).trans cd3
          go_simp
          (try with_reducible rfl)
        simp only [put_list, List.set_cons_succ, List.set_cons_zero]
        refine wpAnyH_takeL (i := 20) (v := ?_) rfl (by kernel_rfl) (by kernel_rfl) (by kernel_rfl) (fun _ _ _ h => h) (Or.inl ⟨by kernel_rfl, ?_⟩) hS ?_
        rotate_left
        · intro V hV
          have k0 := (hV.cell (p := ⟨D, 0, none⟩) hlu).trans cu0
          have k1 := (hV.cell (p := ⟨D, 1, none⟩) hlu).trans cu1
          have k2 := (hV.cell (p := ⟨D, 2, none⟩) hlu).trans cu2
          have k3 := (hV.cell (p := ⟨D, 3, none⟩) hlu).trans cu3
          go_simp
          (try with_reducible rfl)
        simp only [put_list, List.set_cons_succ, List.set_cons_zero]
        refine wpAnyH_takeL (i := 21) (v := ?_) rfl (by kernel_rfl) (by kernel_rfl) (by kernel_rfl) (fun _ _ _ h => h) (Or.inl ⟨by kernel_rfl, ?_⟩) hS ?_
        rotate_left
        · intro V hV
          have k0 := (hV.cell (p := ⟨E, 0, none⟩) hlv).trans cv0
          have k1 := (hV.cell (p := ⟨E, 1, none⟩) hlv).trans cv1
          have k2 := (hV.cell (p := ⟨E, 2, none⟩) hlv).trans cv2
          have k3 := (hV.cell (p := ⟨E, 3, none⟩) hlv).trans cv3
          go_simp
          (try with_reducible rfl)
        simp only [put_list, List.set_cons_succ, List.set_cons_zero]
        refine wpAnyH_takeL (i := 22) (v := ?_) rfl (by kernel_rfl) (by kernel_rfl) (by kernel_rfl) (fun _ _ _ h => h) (Or.inl ⟨by kernel_rfl, ?_⟩) hS ?_
        rotate_left
        · intro V hV
          have k0 := (hV.cell (p := ⟨w.heap.size + 1 + 1, 0, none⟩) hln).trans cn0
          have k1 := (hV.cell (p := ⟨w.heap.size + 1 + 1, 1, none⟩) hln).trans cn1
          have k2 := (hV.cell (p := ⟨w.heap.size + 1 + 1, 2, none⟩) hln).trans cn2
          have k3 := (hV.cell (p := ⟨w.heap.size + 1 + 1, 3, none⟩) hln).trans cn3
          go_simp
          (try with_reducible rfl)
        simp only [put_list, List.set_cons_succ, List.set_cons_zero]
        refine wpAnyH_ready (rs := [23]) (by kernel_rfl) (by simp) (AllReadyH.cons rfl (fun K hK => ?_) AllReadyH.nil)
        go_simp
        refine (Ck8.out _).mono ?_
        rintro e U4 ⟨rfl, hbc⟩
        refine hK.out _ _ (hS.trans (hbc.mono hS.size)) (fun hS => ?_)
        clear hK K hbc
        refine wpAnyH_takeL (i := 24) (v := ?_) rfl (by kernel_rfl) (by kernel_rfl) (by kernel_rfl) (fun _ _ _ h => h) (Or.inl ⟨by kernel_rfl, ?_⟩) hS ?_
        rotate_left
        · intro V hV
          go_simp
          (try with_reducible rfl)
        simp only [put_list, List.set_cons_succ, List.set_cons_zero]
        refine wpAnyH_takeL (i := 25) (v := ?_) rfl (by kernel_rfl) (by kernel_rfl) (by kernel_rfl) (fun _ _ _ h => h) (Or.inl ⟨by kernel_rfl, ?_⟩) hS ?_
        rotate_left
        · intro V hV
          go_simp
          (try with_reducible rfl)
        simp only [put_list, List.set_cons_succ, List.set_cons_zero]
        refine wpAnyH_takeL (i := 26) (v := ?_) rfl (by kernel_rfl) (by kernel_rfl) (by kernel_rfl) (fun _ _ _ h => h) (Or.inl ⟨by kernel_rfl, ?_⟩) hS ?_
        rotate_left
        · intro V hV
          go_simp
          (try with_reducible rfl)
        simp only [put_list, List.set_cons_succ, List.set_cons_zero]
        refine wpAnyH_takeL (i := 27) (v := ?_) rfl (by kernel_rfl) (by kernel_rfl) (by kernel_rfl) (fun _ _ _ h => h) (Or.inl ⟨by kernel_rfl, ?_⟩) hS ?_
        rotate_left
        · intro V hV
          have k0 := (hV.cell (p := ⟨w.heap.size, 0, none⟩) hlx).trans cx0
          have k1 := (hV.cell (p := ⟨w.heap.size, 1, none⟩) hlx).trans cx1
          have k2 := (hV.cell (p := ⟨w.heap.size, 2, none⟩) hlx).trans cx2
          have k3 := (hV.cell (p := ⟨w.heap.size, 3, none⟩) hlx).trans cx3
          go_simp
          (try with_reducible rfl)
        simp only [put_list, List.set_cons_succ, List.set_cons_zero]
        refine wpAnyH_takeL (i := 28) (v := ?_) rfl (by kernel_rfl) (by kernel_rfl) (by kernel_rfl) (fun _ _ _ h => h) (Or.inl ⟨by kernel_rfl, ?_⟩) hS ?_
        rotate_left
        · intro V hV
          have k0 := (hV.cell (p := ⟨w.heap.size + 1, 0, none⟩) hly).trans cy0
          have k1 := (hV.cell (p := ⟨w.heap.size + 1, 1, none⟩) hly).trans cy1
          have k2 := (hV.cell (p := ⟨w.heap.size + 1, 2, none⟩) hly).trans cy2
          have k3 := (hV.cell (p := ⟨w.heap.size + 1, 3, none⟩) hly).trans cy3
          go_simp
          (try with_reducible rfl)
        simp only [put_list, List.set_cons_succ, List.set_cons_zero]
        refine wpAnyH_takeL (i := 31) (v := ?_) rfl (by kernel_rfl) (by kernel_rfl) (by kernel_rfl) (fun _ _ _ h => h) (Or.inl ⟨by kernel_rfl, ?_⟩) hS ?_
        rotate_left
        · intro V hV
          have k0 := (hV.cell (p := ⟨w.heap.size + 1 + 1, 0, none⟩) hln).trans cn0
          have k1 := (hV.cell (p := ⟨w.heap.size + 1 + 1, 1, none⟩) hln).trans cn1
          have k2 := (hV.cell (p := ⟨w.heap.size + 1 + 1, 2, none⟩) hln).trans cn2
          have k3 := (hV.cell (p := ⟨w.heap.size + 1 + 1, 3, none⟩) hln).trans cn3
          go_simp
          (try with_reducible rfl)
        simp only [put_list, List.set_cons_succ, List.set_cons_zero]
        refine wpAnyH_takeL (i := 33) (v := ?_) rfl (by kernel_rfl) (by kernel_rfl) (by kernel_rfl) (fun _ _ _ h => h) (Or.inl ⟨by kernel_rfl, ?_⟩) hS ?_
        rotate_left
        · intro V hV
          have k0 := (hV.cell (p := ⟨B, 0, none⟩) hlm).trans cm0
          have k1 := (hV.cell (p := ⟨B, 1, none⟩) hlm).trans cm1
          have k2 := (hV.cell (p := ⟨B, 2, none⟩) hlm).trans cm2
          have k3 := (hV.cell (p := ⟨B, 3, none⟩) hlm).trans cm3
          go_simp
          (try with_reducible rfl)
        simp only [put_list, List.set_cons_succ, List.set_cons_zero]
        refine wpAnyH_takeL (i := 34) (v := ?_) rfl (by kernel_rfl) (by kernel_rfl) (by kernel_rfl) (fun _ _ _ h => h) (Or.inl ⟨by kernel_rfl, ?_⟩) hS ?_
        rotate_left
        · intro V hV
          have k0 := (hV.cell (p := ⟨D, 0, none⟩) hlu).trans cu0
          have k1 := (hV.cell (p := ⟨D, 1, none⟩) hlu).trans cu1
          have k2 := (hV.cell (p := ⟨D, 2, none⟩) hlu).trans cu2
          have k3 := (hV.cell (p := ⟨D, 3, none⟩) hlu).trans cu3
          go_simp
          (try with_reducible rfl)
        simp only [put_list, List.set_cons_succ, List.set_cons_zero]
        refine wpAnyH_takeL (i := 35) (v := ?_) rfl (by kernel_rfl) (by kernel_rfl) (by kernel_rfl) (fun _ _ _ h => h) (Or.inl ⟨by kernel_rfl, ?_⟩) hS ?_
        rotate_left
        · intro V hV
          have k0 := (hV.cell (p := ⟨w.heap.size + 1 + 1, 0, none⟩) hln).trans cn0
          have k1 := (hV.cell (p := ⟨w.heap.size + 1 + 1, 1, none⟩) hln).trans cn1
          have k2 := (hV.cell (p := ⟨w.heap.size + 1 + 1, 2, none⟩) hln).trans cn2
          have k3 := (hV.cell (p := ⟨w.heap.size + 1 + 1, 3, none⟩) hln).trans cn3
          go_simp
          (try with_reducible rfl)
        simp only [put_list, List.set_cons_succ, List.set_cons_zero]
        refine wpAnyH_takeL (i := 36) (v := ?_) rfl (by kernel_rfl) (by kernel_rfl) (by kernel_rfl) (fun _ _ _ h => h) (Or.inl ⟨by kernel_rfl, ?_⟩) hS ?_
        rotate_left
        · intro V hV
          have k0 := (hV.cell (p := ⟨w.heap.size + 1, 0, none⟩) hly).trans cy0
          have k1 := (hV.cell (p := ⟨w.heap.size + 1, 1, none⟩) hly).trans cy1
          have k2 := (hV.cell (p := ⟨w.heap.size + 1, 2, none⟩) hly).trans cy2
          have k3 := (hV.cell (p := ⟨w.heap.size + 1, 3, none⟩) hly).trans cy3
          go_simp
          (try with_reducible rfl)
        simp only [put_list, List.set_cons_succ, List.set_cons_zero]
        refine wpAnyH_ready (rs := [29]) (by kernel_rfl) (by simp) (AllReadyH.cons rfl (fun K hK => ?_) AllReadyH.nil)
        go_simp
        refine (Ck9.out _).mono ?_
        rintro e U5 ⟨rfl, hbc⟩
        refine hK.out _ _ (hS.trans (hbc.mono hS.size)) (fun hS => ?_)
        clear hK K hbc
        refine wpAnyH_ready (rs := [30]) (by kernel_rfl) (by simp) (AllReadyH.cons rfl (fun K hK => ?_) AllReadyH.nil)
        go_simp
        refine (Ck10.out _).mono ?_
        rintro e U6 ⟨rfl, hbc⟩
        refine hK.out _ _ (hS.trans (hbc.mono hS.size)) (fun hS => ?_)
        clear hK K hbc
        refine wpAnyH_ready (rs := [32]) (by kernel_rfl) (by simp) (AllReadyH.cons rfl (fun K hK => ?_) AllReadyH.nil)
        go_simp
        refine (Ck11.out _).mono ?_
        rintro e U7 ⟨rfl, hbc⟩
        refine hK.out _ _ (hS.trans (hbc.mono hS.size)) (fun hS => ?_)
        clear hK K hbc
        refine wpAnyH_ready (rs := [37]) (by kernel_rfl) (by simp) (AllReadyH.cons rfl (fun K hK => ?_) AllReadyH.nil)
        go_simp
        refine (CkN.out _).mono ?_
        rintro e U8 ⟨rfl, hbc⟩
        refine hK.out _ _ (hS.trans (hbc.mono hS.size)) (fun hS => ?_)
        clear hK K hbc
        refine wpAnyH_takeL (i := 38) (v := ?_) rfl (by kernel_rfl) (by kernel_rfl) (by kernel_rfl) (fun _ _ _ h => h) (Or.inl ⟨by kernel_rfl, ?_⟩) hS ?_
        rotate_left
        · intro V hV
          go_simp
          (try with_reducible rfl)
        simp only [put_list, List.set_cons_succ, List.set_cons_zero]
        refine wpAnyH_takeL (i := 39) (v := ?_) rfl (by kernel_rfl) (by kernel_rfl) (by kernel_rfl) (fun _ _ _ h => h) (Or.inl ⟨by kernel_rfl, ?_⟩) hS ?_
        rotate_left
        · intro V hV
          go_simp
          (try with_reducible rfl)
        simp only [put_list, List.set_cons_succ, List.set_cons_zero]
        refine wpAnyH_takeL (i := 40) (v := ?_) rfl (by kernel_rfl) (by kernel_rfl) (by kernel_rfl) (fun _ _ _ h => h) (Or.inl ⟨by kernel_rfl, ?_⟩) hS ?_
        rotate_left
        · intro V hV
          go_simp
          (try with_reducible rfl)
        simp only [put_list, List.set_cons_succ, List.set_cons_zero]
        refine wpAnyH_takeL (i := 41) (v := ?_) rfl (by kernel_rfl) (by kernel_rfl) (by kernel_rfl) (fun _ _ _ h => h) (Or.inl ⟨by kernel_rfl, ?_⟩) hS ?_
        rotate_left
        · intro V hV
          have k0 := (hV.cell (p := ⟨w.heap.size, 0, none⟩) hlx).trans cx0
          have k1 := (hV.cell (p := ⟨w.heap.size, 1, none⟩) hlx).trans cx1
          have k2 := (hV.cell (p := ⟨w.heap.size, 2, none⟩) hlx).trans cx2
          have k3 := (hV.cell (p := ⟨w.heap.size, 3, none⟩) hlx).trans cx3
          go_simp
          (try with_reducible rfl)
        simp only [put_list, List.set_cons_succ, List.set_cons_zero]
        refine wpAnyH_takeL (i := 43) (v := ?_) rfl (by kernel_rfl) (by kernel_rfl) (by kernel_rfl) (fun _ _ _ h => h) (Or.inl ⟨by kernel_rfl, ?_⟩) hS ?_
        rotate_left
        · intro V hV
          have k0 := (hV.cell (p := ⟨w.heap.size + 1 + 1, 0, none⟩) hln).trans cn0
          have k1 := (hV.cell (p := ⟨w.heap.size + 1 + 1, 1, none⟩) hln).trans cn1
          have k2 := (hV.cell (p := ⟨w.heap.size + 1 + 1, 2, none⟩) hln).trans cn2
          have k3 := (hV.cell (p := ⟨w.heap.size + 1 + 1, 3, none⟩) hln).trans cn3
          go_simp
          (try with_reducible rfl)
        simp only [put_list, List.set_cons_succ, List.set_cons_zero]
        refine wpAnyH_takeL (i := 45) (v := ?_) rfl (by kernel_rfl) (by kernel_rfl) (by kernel_rfl) (fun _ _ _ h => h) (Or.inl ⟨by kernel_rfl, ?_⟩) hS ?_
        rotate_left
        · intro V hV
          have k0 := (hV.cell (p := ⟨D, 0, none⟩) hlu).trans cu0
          have k1 := (hV.cell (p := ⟨D, 1, none⟩) hlu).trans cu1
          have k2 := (hV.cell (p := ⟨D, 2, none⟩) hlu).trans cu2
          have k3 := (hV.cell (p := ⟨D, 3, none⟩) hlu).trans cu3
          go_simp
          (try with_reducible rfl)
        simp only [put_list, List.set_cons_succ, List.set_cons_zero]
        refine wpAnyH_ready (rs := [42]) (by kernel_rfl) (by simp) (AllReadyH.cons rfl (fun K hK => ?_) AllReadyH.nil)
        go_simp
        refine (Ck9.out _).mono ?_
        rintro e U9 ⟨rfl, hbc⟩
        refine hK.out _ _ (hS.trans (hbc.mono hS.size)) (fun hS => ?_)
        clear hK K hbc
        refine wpAnyH_ready (rs := [44]) (by kernel_rfl) (by simp) (AllReadyH.cons rfl (fun K hK => ?_) AllReadyH.nil)
        go_simp
        refine (Ck12.out _).mono ?_
        rintro e U10 ⟨rfl, hbc⟩
        refine hK.out _ _ (hS.trans (hbc.mono hS.size)) (fun hS => ?_)
        clear hK K hbc
        refine wpAnyH_takeL (i := 46) (v := ?_) rfl (by kernel_rfl) (by kernel_rfl) (by kernel_rfl) (fun _ _ _ h => h) (Or.inl ⟨by kernel_rfl, ?_⟩) hS ?_
        rotate_left
        · intro V hV
          go_simp
          (try with_reducible rfl)
        simp only [put_list, List.set_cons_succ, List.set_cons_zero]
        refine wpAnyH_takeL (i := 47) (v := ?_) rfl (by kernel_rfl) (by kernel_rfl) (by kernel_rfl) (fun _ _ _ h => h) (Or.inl ⟨by kernel_rfl, ?_⟩) hS ?_
        rotate_left
        · intro V hV
          go_simp
          (try with_reducible rfl)
        simp only [put_list, List.set_cons_succ, List.set_cons_zero]
        refine wpAnyH_ready (rs := [48]) (by kernel_rfl) (by simp) (AllReadyH.cons rfl (fun K hK => ?_) AllReadyH.nil)
        go_simp
        refine hK.out _ _ hS (fun hS => ?_)
        clear hK K
        refine wpAnyH_done (by kernel_rfl) ?_ _
        go_wp2_with fail
        go_ret
        exact ⟨rfl, HBW.out.trans (hS.mono HBW.out.size)⟩

end Go.Proofs.Ytpnijncoldihfaa
