/-
  The document's order of words and its carries; equality.
-/
import Derived.Test.YtpnijncoldihfaaSumsC25
import Derived.Test.YtpnijncoldihfaaSumsC26
namespace Go.Proofs.Ytpnijncoldihfaa
open Go.RowKit Go.Shelf

theorem mod_lt17 (X : Nat) : X % M256 < 4294967296 ^ 17 := Nat.lt_of_lt_of_le (Nat.mod_lt _ M256_pos) (by decide)

set_option maxHeartbeats 2000000 in
set_option maxRecDepth 100000 in
theorem refCmp_any (X Y : Nat) (w : World) : Calls Try.prog 19 #[wv X, wv Y] w fun e w' => e = .returned (.int .i64 (cmpI (X % M256) (Y % M256))) ∧ Below w.heap.size w w' := by
  have c1 := fun W => fromWord_any X W
  have c2 := fun W => fromWord_any Y W
  have c3 := fun W => order_any (X % M256) (Y % M256) (mod_lt17 X) (mod_lt17 Y) W
  generalize cmpI (X % M256) (Y % M256) = res at c3 ⊢
  generalize lv (X % M256) = la at c1 c3
  generalize lv (Y % M256) = lb at c2 c3
  obtain ⟨x0, x1, x2, x3, hx⟩ := wv_form X
  obtain ⟨y0, y1, y2, y3, hy⟩ := wv_form Y
  simp only [hx, hy] at c1 c2 ⊢
  have C1 := hideP c1
  have C2 := hideP c2
  have C3 := hideP c3
  clear c1 c2 c3 hx hy
  go_enter Try.func19, Try.ntmps19
  go_wp2_with fail
  refine at_world_t (fun W0 hW0 => ?_)
  have HBx : W0.heap[w.heap.size]? = some (.cells #[.int .u64 x0, .int .u64 x1, .int .u64 x2, .int .u64 x3] 23 (0, 0)) := by
    rw [hW0, heap_old _ _ (by simp <;> omega)]
    exact heap_new _ _
  have HBy : W0.heap[w.heap.size + 1]? = some (.cells #[.int .u64 y0, .int .u64 y1, .int .u64 y2, .int .u64 y3] 23 (0, 0)) := by
    rw [hW0]
    exact heap_new1 _ _ _
  have HBW : Hid (Below w.heap.size w W0) := by
    show Below _ _ _
    rw [hW0]
    exact (((Below.refl _ w).alloc (Nat.le_refl _) _).alloc (by simp) _)
  clear hW0
  obtain ⟨cx0, cx1, cx2, cx3⟩ := cells4 HBx
  have hlx := lt_of_block HBx
  obtain ⟨cy0, cy1, cy2, cy3⟩ := cells4 HBy
  have hly := lt_of_block HBy
  refine wp_region_heldS (S := fun V => Below W0.heap.size W0 V) (by kernel_rfl) (Below.refl _ _).drew (fun hS => ?_)
  refine wpAnyH_takeL (i := 0) (v := ?_) rfl (by kernel_rfl) (by kernel_rfl) (by kernel_rfl) (fun _ _ _ h => h) (Or.inl ⟨by kernel_rfl, ?_⟩) hS ?_
  rotate_left
  · intro V hV
    have k0 := (hV.cell (p := ⟨w.heap.size, 0, none⟩) hlx).trans cx0
    have k1 := (hV.cell (p := ⟨w.heap.size, 1, none⟩) hlx).trans cx1
    have k2 := (hV.cell (p := ⟨w.heap.size, 2, none⟩) hlx).trans cx2
    have k3 := (hV.cell (p := ⟨w.heap.size, 3, none⟩) hlx).trans cx3
    go_simp
    (try with_reducible rfl)
  simp only [put_list, List.set_cons_succ, List.set_cons_zero]
  refine wpAnyH_takeL (i := 2) (v := ?_) rfl (by kernel_rfl) (by kernel_rfl) (by kernel_rfl) (fun _ _ _ h => h) (Or.inl ⟨by kernel_rfl, ?_⟩) hS ?_
  rotate_left
  · intro V hV
    have k0 := (hV.cell (p := ⟨w.heap.size + 1, 0, none⟩) hly).trans cy0
    have k1 := (hV.cell (p := ⟨w.heap.size + 1, 1, none⟩) hly).trans cy1
    have k2 := (hV.cell (p := ⟨w.heap.size + 1, 2, none⟩) hly).trans cy2
    have k3 := (hV.cell (p := ⟨w.heap.size + 1, 3, none⟩) hly).trans cy3
    go_simp
    (try with_reducible rfl)
  simp only [put_list, List.set_cons_succ, List.set_cons_zero]
  refine wpAnyH_ready (rs := [1]) (by kernel_rfl) (by simp) (AllReadyH.cons rfl (fun K hK => ?_) AllReadyH.nil)
  go_simp
  refine (C1.out _).mono ?_
  rintro e U1 ⟨rfl, hbc⟩
  refine hK.out _ _ (hS.trans (hbc.mono hS.size)) (fun hS => ?_)
  clear hK K hbc
  refine wpAnyH_ready (rs := [3]) (by kernel_rfl) (by simp) (AllReadyH.cons rfl (fun K hK => ?_) AllReadyH.nil)
  go_simp
  refine (C2.out _).mono ?_
  rintro e U2 ⟨rfl, hbc⟩
  refine hK.out _ _ (hS.trans (hbc.mono hS.size)) (fun hS => ?_)
  clear hK K hbc
  refine wpAnyH_ready (rs := [4]) (by kernel_rfl) (by simp) (AllReadyH.cons rfl (fun K hK => ?_) AllReadyH.nil)
  go_simp
  refine (C3.out _).mono ?_
  rintro e U3 ⟨rfl, hbc⟩
  refine hK.out _ _ (hS.trans (hbc.mono hS.size)) (fun hS => ?_)
  clear hK K hbc
  refine wpAnyH_ready (rs := [5]) (by kernel_rfl) (by simp) (AllReadyH.cons rfl (fun K hK => ?_) AllReadyH.nil)
  go_simp
  refine hK.out _ _ hS (fun hS => ?_)
  clear hK K
  refine wpAnyH_done (by kernel_rfl) ?_ _
  go_wp2_with fail
  go_ret
  exact ⟨rfl, HBW.out.trans (hS.mono HBW.out.size)⟩

theorem index17 (d0 d1 d2 d3 d4 d5 d6 d7 d8 d9 d10 d11 d12 d13 d14 d15 d16 : Int) (V : World) : (Instr.index 76 (.agg #[.int .u64 d0, .int .u64 d1, .int .u64 d2, .int .u64 d3, .int .u64 d4, .int .u64 d5, .int .u64 d6, .int .u64 d7, .int .u64 d8, .int .u64 d9, .int .u64 d10, .int .u64 d11, .int .u64 d12, .int .u64 d13, .int .u64 d14, .int .u64 d15, .int .u64 d16]) (.int .i64 8)).run Try.prog V = .ok (.int .u64 d8) V := by
  simp [Instr.index, run_underlying under76, asIntOf, go_sem]

theorem carry_dg {A B : Nat} (hA : A < M256) (hB : B < M256) : dg (A + B) 8 = if M256 ≤ A + B then 1 else 0 := by
  unfold dg
  rw [show (4294967296 : Nat) ^ 8 = M256 by decide]
  unfold M256 at *
  split <;> omega

set_option maxHeartbeats 2000000 in
set_option maxRecDepth 100000 in
theorem refCarries_any (X Y : Nat) (w : World) : Calls Try.prog 29 #[wv X, wv Y] w fun e w' => e = .returned (.bool (decide (M256 ≤ X % M256 + Y % M256))) ∧ Below w.heap.size w w' := by
  have c1 := fun W => fromWord_any X W
  have c2 := fun W => fromWord_any Y W
  have c3 := fun W => plus_any (X % M256) (Y % M256) W
  have h8 : (!decide ((dg (X % M256 + Y % M256) 8 : Int) = 0)) = decide (M256 ≤ X % M256 + Y % M256) := by
    rw [carry_dg (Nat.mod_lt _ M256_pos) (Nat.mod_lt _ M256_pos)]
    split <;> simp [*]
  rw [← h8]
  have hl : lv (X % M256 + Y % M256) = .agg (c17 (dg (X % M256 + Y % M256))) := rfl
  rw [hl] at c3
  unfold c17 at c3
  clear h8 hl
  generalize lv (X % M256) = la at c1 c3
  generalize lv (Y % M256) = lb at c2 c3
  generalize dg (X % M256 + Y % M256) 0 = d0 at c3
  generalize dg (X % M256 + Y % M256) 1 = d1 at c3
  generalize dg (X % M256 + Y % M256) 2 = d2 at c3
  generalize dg (X % M256 + Y % M256) 3 = d3 at c3
  generalize dg (X % M256 + Y % M256) 4 = d4 at c3
  generalize dg (X % M256 + Y % M256) 5 = d5 at c3
  generalize dg (X % M256 + Y % M256) 6 = d6 at c3
  generalize dg (X % M256 + Y % M256) 7 = d7 at c3
  generalize dg (X % M256 + Y % M256) 8 = d8 at c3 ⊢
  generalize dg (X % M256 + Y % M256) 9 = d9 at c3
  generalize dg (X % M256 + Y % M256) 10 = d10 at c3
  generalize dg (X % M256 + Y % M256) 11 = d11 at c3
  generalize dg (X % M256 + Y % M256) 12 = d12 at c3
  generalize dg (X % M256 + Y % M256) 13 = d13 at c3
  generalize dg (X % M256 + Y % M256) 14 = d14 at c3
  generalize dg (X % M256 + Y % M256) 15 = d15 at c3
  generalize dg (X % M256 + Y % M256) 16 = d16 at c3
  obtain ⟨x0, x1, x2, x3, hx⟩ := wv_form X
  obtain ⟨y0, y1, y2, y3, hy⟩ := wv_form Y
  simp only [hx, hy] at c1 c2 ⊢
  have C1 := hideP c1
  have C2 := hideP c2
  have C3 := hideP c3
  have hidx := fun V => index17 (d0 : Int) (d1 : Int) (d2 : Int) (d3 : Int) (d4 : Int) (d5 : Int) (d6 : Int) (d7 : Int) (d8 : Int) (d9 : Int) (d10 : Int) (d11 : Int) (d12 : Int) (d13 : Int) (d14 : Int) (d15 : Int) (d16 : Int) V
  clear c1 c2 c3 hx hy
  go_enter Try.func29, Try.ntmps29
  go_wp2_with fail
  refine at_world_t (fun W0 hW0 => ?_)
  have HBx : W0.heap[w.heap.size]? = some (.cells #[.int .u64 x0, .int .u64 x1, .int .u64 x2, .int .u64 x3] 23 (0, 0)) := by
    rw [hW0, heap_old _ _ (by simp <;> omega)]
    exact heap_new _ _
  have HBy : W0.heap[w.heap.size + 1]? = some (.cells #[.int .u64 y0, .int .u64 y1, .int .u64 y2, .int .u64 y3] 23 (0, 0)) := by
    rw [hW0]
    exact heap_new1 _ _ _
  have HBW : Hid (Below w.heap.size w W0) := by
    show Below _ _ _
    rw [hW0]
    exact (((Below.refl _ w).alloc (Nat.le_refl _) _).alloc (by simp) _)
  clear hW0
  obtain ⟨cx0, cx1, cx2, cx3⟩ := cells4 HBx
  have hlx := lt_of_block HBx
  obtain ⟨cy0, cy1, cy2, cy3⟩ := cells4 HBy
  have hly := lt_of_block HBy
  refine wp_region_heldS (S := fun V => Below W0.heap.size W0 V) (by kernel_rfl) (Below.refl _ _).drew (fun hS => ?_)
  refine wpAnyH_takeL (i := 0) (v := ?_) rfl (by kernel_rfl) (by kernel_rfl) (by kernel_rfl) (fun _ _ _ h => h) (Or.inl ⟨by kernel_rfl, ?_⟩) hS ?_
  rotate_left
  · intro V hV
    have k0 := (hV.cell (p := ⟨w.heap.size, 0, none⟩) hlx).trans cx0
    have k1 := (hV.cell (p := ⟨w.heap.size, 1, none⟩) hlx).trans cx1
    have k2 := (hV.cell (p := ⟨w.heap.size, 2, none⟩) hlx).trans cx2
    have k3 := (hV.cell (p := ⟨w.heap.size, 3, none⟩) hlx).trans cx3
    go_simp
    (try with_reducible rfl)
  simp only [put_list, List.set_cons_succ, List.set_cons_zero]
  refine wpAnyH_takeL (i := 2) (v := ?_) rfl (by kernel_rfl) (by kernel_rfl) (by kernel_rfl) (fun _ _ _ h => h) (Or.inl ⟨by kernel_rfl, ?_⟩) hS ?_
  rotate_left
  · intro V hV
    have k0 := (hV.cell (p := ⟨w.heap.size + 1, 0, none⟩) hly).trans cy0
    have k1 := (hV.cell (p := ⟨w.heap.size + 1, 1, none⟩) hly).trans cy1
    have k2 := (hV.cell (p := ⟨w.heap.size + 1, 2, none⟩) hly).trans cy2
    have k3 := (hV.cell (p := ⟨w.heap.size + 1, 3, none⟩) hly).trans cy3
    go_simp
    (try with_reducible rfl)
  simp only [put_list, List.set_cons_succ, List.set_cons_zero]
  refine wpAnyH_ready (rs := [1]) (by kernel_rfl) (by simp) (AllReadyH.cons rfl (fun K hK => ?_) AllReadyH.nil)
  go_simp
  refine (C1.out _).mono ?_
  rintro e U1 ⟨rfl, hbc⟩
  refine hK.out _ _ (hS.trans (hbc.mono hS.size)) (fun hS => ?_)
  clear hK K hbc
  refine wpAnyH_ready (rs := [3]) (by kernel_rfl) (by simp) (AllReadyH.cons rfl (fun K hK => ?_) AllReadyH.nil)
  go_simp
  refine (C2.out _).mono ?_
  rintro e U2 ⟨rfl, hbc⟩
  refine hK.out _ _ (hS.trans (hbc.mono hS.size)) (fun hS => ?_)
  clear hK K hbc
  refine wpAnyH_ready (rs := [4]) (by kernel_rfl) (by simp) (AllReadyH.cons rfl (fun K hK => ?_) AllReadyH.nil)
  go_simp
  refine (C3.out _).mono ?_
  rintro e U3 ⟨rfl, hbc⟩
  refine hK.out _ _ (hS.trans (hbc.mono hS.size)) (fun hS => ?_)
  clear hK K hbc
  refine wpAnyH_takeL (i := 5) (v := ?_) rfl (by kernel_rfl) (by kernel_rfl) (by kernel_rfl) (fun _ _ _ h => h) (Or.inl ⟨by kernel_rfl, ?_⟩) hS ?_
  rotate_left
  · intro V hV
    go_simp
    (try with_reducible rfl)
  simp only [put_list, List.set_cons_succ, List.set_cons_zero]
  refine wpAnyH_takeL (i := 6) (v := ?_) rfl (by kernel_rfl) (by kernel_rfl) (by kernel_rfl) (fun _ _ _ h => h) (Or.inl ⟨by kernel_rfl, ?_⟩) hS ?_
  rotate_left
  · intro V hV
    go_simp
    (try with_reducible rfl)
  simp only [put_list, List.set_cons_succ, List.set_cons_zero]
  refine wpAnyH_ready (rs := [7]) (by kernel_rfl) (by simp) (AllReadyH.cons rfl (fun K hK => ?_) AllReadyH.nil)
  go_simp
  refine hK.out _ _ hS (fun hS => ?_)
  clear hK K
  refine wpAnyH_done (by kernel_rfl) ?_ _
  go_wp2_with fail
  go_ret
  refine ⟨?_, HBW.out.trans (hS.mono HBW.out.size)⟩
  by_cases h : d8 = 0 <;> simp [h]

set_option maxHeartbeats 2000000 in
set_option maxRecDepth 100000 in
theorem same_any (X : Nat) (w : World) : Calls Try.prog 20 #[wv X, wv X] w fun e w' => e = .returned (.bool true) ∧ Below w.heap.size w w' := by
  obtain ⟨x0, x1, x2, x3, hx⟩ := wv_form X
  rw [hx]
  have heq : ∀ W : World, (Op.equalIn 10000 24 (.agg #[.int .u64 x0, .int .u64 x1, .int .u64 x2, .int .u64 x3]) (.agg #[.int .u64 x0, .int .u64 x1, .int .u64 x2, .int .u64 x3])).run Try.prog W = .ok true W := fun W => by rw [eq_words]; simp
  clear hx
  go_enter Try.func20, Try.ntmps20
  go_wp2_with fail
  go_ret
  refine ⟨rfl, ?_⟩
  repeat first | exact Below.refl _ _ | apply Below.drew | (refine Below.alloc ?_ (by simp <;> omega) _) | (refine Below.setCell ?_ (by simp <;> omega) _)

end Go.Proofs.Ytpnijncoldihfaa
