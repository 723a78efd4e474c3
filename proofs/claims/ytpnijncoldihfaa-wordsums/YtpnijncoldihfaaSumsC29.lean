/-
  A word as a small number.
-/
import Derived.Test.YtpnijncoldihfaaSumsC27
import Derived.Test.YtpnijncoldihfaaSumsC13
namespace Go.Proofs.Ytpnijncoldihfaa
open Go.RowKit Go.Shelf

theorem num_small {x0 x1 x2 x3 : Nat} (h0 : x0 < 18446744073709551616) : num x0 x1 x2 x3 < 18446744073709551616 ↔ (x1 = 0 ∧ x2 = 0 ∧ x3 = 0) := by
  unfold num
  omega

set_option maxHeartbeats 2000000 in
set_option maxRecDepth 100000 in
theorem small_in (X : Nat) (h : X % M256 < 18446744073709551616) (w : World) : Calls Try.prog 18 #[wv X] w fun e w' => e = .returned (.tuple #[.int .u64 ((X % M256 : Nat) : Int), .bool true]) ∧ Below w.heap.size w w' := by
  obtain ⟨x0, x1, x2, x3, h0, h1, h2, h3, eX, hX⟩ := wv_limbs X
  have c1 := fun W => of_any x0 h0 W
  rw [wv_small h0] at c1
  rw [eX, num_small h0] at h
  have hr : X % M256 = x0 := by
    rw [eX]
    unfold num
    omega
  rw [hr]
  rw [hX]
  have heq : ∀ W : World, (Op.equalIn 10000 24 (.agg #[.int .u64 (x0 : Int), .int .u64 (x1 : Int), .int .u64 (x2 : Int), .int .u64 (x3 : Int)]) (.agg #[.int .u64 (x0 : Int), .int .u64 0, .int .u64 0, .int .u64 0])).run Try.prog W = .ok true W := fun W => by
    rw [eq_words]
    congr 1
    obtain ⟨a, b, c⟩ := h
    subst a b c
    simp
  have C1 := hideP c1
  clear c1 hX h eX h0 h1 h2 h3 hr
  go_enter Try.func18, Try.ntmps18
  go_wp2_with fail
  refine at_world_t (fun W0 hW0 => ?_)
  have HBx : W0.heap[w.heap.size]? = some (.cells #[.int .u64 (x0 : Int), .int .u64 (x1 : Int), .int .u64 (x2 : Int), .int .u64 (x3 : Int)] 24 (0, 0)) := by
    rw [hW0]
    exact heap_new _ _
  have HBW : Hid (Below w.heap.size w W0) := by
    show Below _ _ _
    rw [hW0]
    exact ((Below.refl _ w).alloc (Nat.le_refl _) _)
  clear hW0
  obtain ⟨cx0, cx1, cx2, cx3⟩ := cells4 HBx
  have hlx := lt_of_block HBx
  refine wp_region_heldS (S := fun V => Below W0.heap.size W0 V) (by kernel_rfl) (Below.refl _ _).drew (fun hS => ?_)
  refine wpAnyH_takeL (i := 0) (v := ?_) rfl (by kernel_rfl) (by kernel_rfl) (by kernel_rfl) (fun _ _ _ h => h) (Or.inl ⟨by kernel_rfl, ?_⟩) hS ?_
  rotate_left
  · intro V hV
    have k0 := (hV.cell (p := ⟨w.heap.size, 0, none⟩) hlx).trans cx0
    have k1 := (hV.cell (p := ⟨w.heap.size, 1, none⟩) hlx).trans cx1
    have k2 := (hV.cell (p := ⟨w.heap.size, 2, none⟩) hlx).trans cx2
    have k3 := (hV.cell (p := ⟨w.heap.size, 3, none⟩) hlx).trans cx3
    go_simp
    (try with_reducible rfl)
  simp only [put_list, List.set_cons_succ, List.set_cons_zero]
  refine wpAnyH_takeL (i := 1) (v := ?_) rfl (by kernel_rfl) (by kernel_rfl) (by kernel_rfl) (fun _ _ _ h => h) (Or.inl ⟨by kernel_rfl, ?_⟩) hS ?_
  rotate_left
  · intro V hV
    go_simp
    (try with_reducible rfl)
  simp only [put_list, List.set_cons_succ, List.set_cons_zero]
  refine wpAnyH_takeL (i := 2) (v := ?_) rfl (by kernel_rfl) (by kernel_rfl) (by kernel_rfl) (fun _ _ _ h => h) (Or.inl ⟨by kernel_rfl, ?_⟩) hS ?_
  rotate_left
  · intro V hV
    have k0 := (hV.cell (p := ⟨w.heap.size, 0, none⟩) hlx).trans cx0
    go_simp
    (try with_reducible rfl)
  simp only [put_list, List.set_cons_succ, List.set_cons_zero]
  refine wpAnyH_ready (rs := [3]) (by kernel_rfl) (by simp) (AllReadyH.cons rfl (fun K hK => ?_) AllReadyH.nil)
  go_simp
  refine (C1.out _).mono ?_
  rintro e U1 ⟨rfl, hbc⟩
  refine hK.out _ _ (hS.trans (hbc.mono hS.size)) (fun hS => ?_)
  clear hK K hbc
  refine wpAnyH_takeL (i := 4) (v := ?_) rfl (by kernel_rfl) (by kernel_rfl) (by kernel_rfl) (fun _ _ _ h => h) (Or.inl ⟨by kernel_rfl, ?_⟩) hS ?_
  rotate_left
  · intro V hV
    go_simp
    (try with_reducible rfl)
  simp only [put_list, List.set_cons_succ, List.set_cons_zero]
  refine wpAnyH_done (by kernel_rfl) ?_ _
  have q0 := (hS.cell (p := ⟨w.heap.size, 0, none⟩) hlx).trans cx0
  clear cx0 cx1 cx2 cx3
  go_wp2_with fail
  refine bodyPost_ret (v := .tuple #[.int .u64 (x0 : Int), .bool true]) (by simp [results, Try.results18, go_sem]) rfl ⟨rfl, HBW.out.trans (hS.mono HBW.out.size)⟩

set_option maxHeartbeats 2000000 in
set_option maxRecDepth 100000 in
theorem small_out (X : Nat) (h : ¬ X % M256 < 18446744073709551616) (w : World) : Calls Try.prog 18 #[wv X] w fun e w' => e = .returned (.tuple #[.int .u64 0, .bool false]) ∧ Below w.heap.size w w' := by
  obtain ⟨x0, x1, x2, x3, h0, h1, h2, h3, eX, hX⟩ := wv_limbs X
  have c1 := fun W => of_any x0 h0 W
  rw [wv_small h0] at c1
  rw [eX, num_small h0] at h
  rw [hX]
  have heq : ∀ W : World, (Op.equalIn 10000 24 (.agg #[.int .u64 (x0 : Int), .int .u64 (x1 : Int), .int .u64 (x2 : Int), .int .u64 (x3 : Int)]) (.agg #[.int .u64 (x0 : Int), .int .u64 0, .int .u64 0, .int .u64 0])).run Try.prog W = .ok false W := fun W => by
    rw [eq_words]
    congr 1
    rw [Bool.eq_false_iff]
    intro hh
    simp only [Bool.and_eq_true, beq_iff_eq] at hh
    omega
  have C1 := hideP c1
  clear c1 hX h eX h0 h1 h2 h3
  go_enter Try.func18, Try.ntmps18
  go_wp2_with fail
  refine at_world_t (fun W0 hW0 => ?_)
  have HBx : W0.heap[w.heap.size]? = some (.cells #[.int .u64 (x0 : Int), .int .u64 (x1 : Int), .int .u64 (x2 : Int), .int .u64 (x3 : Int)] 24 (0, 0)) := by
    rw [hW0]
    exact heap_new _ _
  have HBW : Hid (Below w.heap.size w W0) := by
    show Below _ _ _
    rw [hW0]
    exact ((Below.refl _ w).alloc (Nat.le_refl _) _)
  clear hW0
  obtain ⟨cx0, cx1, cx2, cx3⟩ := cells4 HBx
  have hlx := lt_of_block HBx
  refine wp_region_heldS (S := fun V => Below W0.heap.size W0 V) (by kernel_rfl) (Below.refl _ _).drew (fun hS => ?_)
  refine wpAnyH_takeL (i := 0) (v := ?_) rfl (by kernel_rfl) (by kernel_rfl) (by kernel_rfl) (fun _ _ _ h => h) (Or.inl ⟨by kernel_rfl, ?_⟩) hS ?_
  rotate_left
  · intro V hV
    have k0 := (hV.cell (p := ⟨w.heap.size, 0, none⟩) hlx).trans cx0
    have k1 := (hV.cell (p := ⟨w.heap.size, 1, none⟩) hlx).trans cx1
    have k2 := (hV.cell (p := ⟨w.heap.size, 2, none⟩) hlx).trans cx2
    have k3 := (hV.cell (p := ⟨w.heap.size, 3, none⟩) hlx).trans cx3
    go_simp
    (try with_reducible rfl)
  simp only [put_list, List.set_cons_succ, List.set_cons_zero]
  refine wpAnyH_takeL (i := 1) (v := ?_) rfl (by kernel_rfl) (by kernel_rfl) (by kernel_rfl) (fun _ _ _ h => h) (Or.inl ⟨by kernel_rfl, ?_⟩) hS ?_
  rotate_left
  · intro V hV
    go_simp
    (try with_reducible rfl)
  simp only [put_list, List.set_cons_succ, List.set_cons_zero]
  refine wpAnyH_takeL (i := 2) (v := ?_) rfl (by kernel_rfl) (by kernel_rfl) (by kernel_rfl) (fun _ _ _ h => h) (Or.inl ⟨by kernel_rfl, ?_⟩) hS ?_
  rotate_left
  · intro V hV
    have k0 := (hV.cell (p := ⟨w.heap.size, 0, none⟩) hlx).trans cx0
    go_simp
    (try with_reducible rfl)
  simp only [put_list, List.set_cons_succ, List.set_cons_zero]
  refine wpAnyH_ready (rs := [3]) (by kernel_rfl) (by simp) (AllReadyH.cons rfl (fun K hK => ?_) AllReadyH.nil)
  go_simp
  refine (C1.out _).mono ?_
  rintro e U1 ⟨rfl, hbc⟩
  refine hK.out _ _ (hS.trans (hbc.mono hS.size)) (fun hS => ?_)
  clear hK K hbc
  refine wpAnyH_takeL (i := 4) (v := ?_) rfl (by kernel_rfl) (by kernel_rfl) (by kernel_rfl) (fun _ _ _ h => h) (Or.inl ⟨by kernel_rfl, ?_⟩) hS ?_
  rotate_left
  · intro V hV
    go_simp
    (try with_reducible rfl)
  simp only [put_list, List.set_cons_succ, List.set_cons_zero]
  refine wpAnyH_done (by kernel_rfl) ?_ _
  have q0 := (hS.cell (p := ⟨w.heap.size, 0, none⟩) hlx).trans cx0
  clear cx0 cx1 cx2 cx3
  go_wp2_with fail
  refine bodyPost_ret (v := .tuple #[.int .u64 0, .bool false]) (by simp [results, Try.results18, go_sem]) rfl ⟨rfl, HBW.out.trans (hS.mono HBW.out.size)⟩

end Go.Proofs.Ytpnijncoldihfaa
