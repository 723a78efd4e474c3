/-
  The document's shifts, of words by words.
-/
import Derived.Test.YtpnijncoldihfaaBitsC28
import Derived.Test.YtpnijncoldihfaaBitsC18
namespace Go.Proofs.Ytpnijncoldihfaa
open Go.RowKit Go.Shelf

theorem smallN_le (X n : Nat) : smallN X n ≤ n := by unfold smallN; split <;> omega

theorem sh_shl (X Y i : Nat) (hi : i < 256) : bt (shlN (X % M256) Y) i = shBit Y (smallN X 256) 0 i := by
  rw [bt_shlN _ _ _ hi]
  unfold shBit smallN
  by_cases h : X % M256 < 256
  · rw [if_pos h]
    by_cases h2 : i < X % M256
    · rw [if_pos h2, if_pos (by omega)]
    · rw [if_neg h2, if_neg (by omega), if_neg (by omega)]
      congr 1
      omega
  · rw [if_neg h, if_pos (by omega), if_pos (by omega)]

theorem sh_shr (X Y i : Nat) (hi : i < 256) : bt (shrN (X % M256) Y) i = shBit Y (-(smallN X 256 : Int)) 0 i := by
  rw [bt_shrN]
  unfold shBit smallN
  by_cases h : X % M256 < 256
  · rw [if_pos h]
    by_cases h2 : i + X % M256 < 256
    · rw [if_pos h2, if_neg (by omega), if_neg (by omega)]
      congr 1
      omega
    · rw [if_neg h2, if_neg (by omega), if_pos (by omega)]
  · rw [if_neg h, if_neg (by omega), if_neg (by omega), if_pos (by omega)]

theorem sh_sar (X Y i : Nat) (hi : i < 256) : bt (sarN (X % M256) Y) i = shBit Y (-(smallN X 256 : Int)) (bt Y 255) i := by
  rw [bt_sar _ _ _ hi]
  unfold shBit smallN
  by_cases h : X % M256 < 256
  · rw [if_pos h]
    by_cases h2 : i + X % M256 < 256
    · rw [if_pos h2, if_neg (by omega), if_neg (by omega)]
      congr 1
      omega
    · rw [if_neg h2, if_neg (by omega), if_pos (by omega)]
  · rw [if_neg h, if_neg (by omega), if_neg (by omega), if_pos (by omega)]

theorem wv_form_top (X : Nat) : ∃ x0 x1 x2 x3 : Int, wv X = .agg #[.int .u64 x0, .int .u64 x1, .int .u64 x2, .int .u64 x3] ∧ x3 / 9223372036854775808 = ((bt X 255 : Nat) : Int) := by
  refine ⟨_, _, _, _, wv_limb X, ?_⟩
  have h := limb_bit X 255
  have hl := limb_lt X 3
  rw [show 255 / 64 = 3 by decide, show 255 % 64 = 63 by decide, show (2 : Nat) ^ 63 = 9223372036854775808 by decide] at h
  rw [← h]
  omega

set_option maxHeartbeats 4000000 in
set_option maxRecDepth 100000 in
theorem refShl_any (X Y : Nat) (w : World) : Calls Try.prog 61 #[wv X, wv Y] w fun e w' => e = .returned (wv (shlN (X % M256) Y)) ∧ Below w.heap.size w w' := by
  have c1 := fun W => refSmall_any X 256 (by omega) W
  have c2 := fun W => refShift_any Y ((smallN X 256 : Nat) : Int) 0 (shlN (X % M256) Y) (by omega) (by have := smallN_le X 256; omega) (by omega) (fun i hi => sh_shl X Y i hi) W
  obtain ⟨x0, x1, x2, x3, hx⟩ := wv_form X
  obtain ⟨y0, y1, y2, y3, hy⟩ := wv_form Y
  obtain ⟨z0, z1, z2, z3, hz⟩ := wv_form (shlN (X % M256) Y)
  simp only [hx, hy, hz] at c1 c2 ⊢
  have C1 := hideP c1
  have C2 := hideP c2
  clear c1 c2 hx hy hz
  go_enter Try.func61, Try.ntmps61
  go_wp2_with fail
  refine at_world_t (fun W0 hW0 => ?_)
  have HBx : W0.heap[w.heap.size]? = some (.cells #[.int .u64 x0, .int .u64 x1, .int .u64 x2, .int .u64 x3] 23 (0, 0)) := by
    rw [hW0, heap_old _ _ (by simp <;> omega), heap_old _ _ (by simp <;> omega)]
    exact heap_new _ _
  have HBy : W0.heap[w.heap.size + 1]? = some (.cells #[.int .u64 y0, .int .u64 y1, .int .u64 y2, .int .u64 y3] 23 (0, 0)) := by
    rw [hW0, heap_old _ _ (by simp <;> omega)]
    exact heap_new1 _ _ _
  have HBr : W0.heap[w.heap.size + 1 + 1]? = some (.cells #[.int .u64 0, .int .u64 0, .int .u64 0, .int .u64 0] 23 (0, 0)) := by
    rw [hW0]
    exact heap_new2 _ _ _ _
  have HBW : Hid (Below w.heap.size w W0) := by
    show Below _ _ _
    rw [hW0]
    exact ((((Below.refl _ w).alloc (Nat.le_refl _) _).alloc (by simp) _).alloc (by simp <;> omega) _)
  clear hW0
  refine wp_region_heldS (S := KeepT 23 W0 (w.heap.size + 1 + 1)) (by kernel_rfl) (KeepT.init HBr) (fun hS => ?_)
  refine wpAnyH_takeL (i := 0) (v := ?_) rfl (by kernel_rfl) (by kernel_rfl) (by kernel_rfl) (fun _ _ _ h => h) (Or.inl ⟨by kernel_rfl, ?_⟩) hS ?_
  rotate_left
  · intro V hV
    obtain ⟨k0, k1, k2, k3⟩ := hV.cells HBy (by omega)
    go_simp
    (try with_reducible rfl)
  simp only [put_list, List.set_cons_succ, List.set_cons_zero]
  refine wpAnyH_takeL (i := 1) (v := ?_) rfl (by kernel_rfl) (by kernel_rfl) (by kernel_rfl) (fun _ _ _ h => h) (Or.inl ⟨by kernel_rfl, ?_⟩) hS ?_
  rotate_left
  · intro V hV
    obtain ⟨k0, k1, k2, k3⟩ := hV.cells HBx (by omega)
    go_simp
    (try with_reducible rfl)
  simp only [put_list, List.set_cons_succ, List.set_cons_zero]
  refine wpAnyH_ready (rs := [2]) (by kernel_rfl) (by simp) (AllReadyH.cons rfl (fun K hK => ?_) AllReadyH.nil)
  go_simp
  refine (C1.out _).mono ?_
  rintro e U1 ⟨rfl, hbc⟩
  refine hK.out _ _ (hS.call hbc) (fun hS => ?_)
  clear hK K hbc
  refine wpAnyH_ready (rs := [3]) (by kernel_rfl) (by simp) (AllReadyH.cons rfl (fun K hK => ?_) AllReadyH.nil)
  go_simp
  refine (C2.out _).mono ?_
  rintro e U2 ⟨rfl, hbc⟩
  refine hK.out _ _ (hS.call hbc) (fun hS => ?_)
  clear hK K hbc
  obtain ⟨r0, r1, r2, r3, j0, j1, j2, j3, jf⟩ := hS.room
  refine wpAnyH_ready (rs := [4]) (by kernel_rfl) (by simp) (AllReadyH.cons rfl (fun K hK => ?_) AllReadyH.nil)
  go_simp
  refine hK.out _ _ (hS.store _ _ _ _) (fun hS => ?_)
  clear hK K jf
  refine wpAnyH_done (by kernel_rfl) ?_ _
  go_wp2_with fail
  refine bodyPost_ret (v := .agg #[.int .u64 z0, .int .u64 z1, .int .u64 z2, .int .u64 z3]) (by simp [results, Try.results61, go_sem, j0, j1, j2, j3]) rfl ⟨rfl, ?_⟩
  exact HBW.out.trans (hS.below.mono (by omega))

set_option maxHeartbeats 4000000 in
set_option maxRecDepth 100000 in
theorem refShr_any (X Y : Nat) (w : World) : Calls Try.prog 63 #[wv X, wv Y] w fun e w' => e = .returned (wv (shrN (X % M256) Y)) ∧ Below w.heap.size w w' := by
  have c1 := fun W => refSmall_any X 256 (by omega) W
  have c2 := fun W => refShift_any Y (-((smallN X 256 : Nat) : Int)) 0 (shrN (X % M256) Y) (by have := smallN_le X 256; omega) (by omega) (by omega) (fun i hi => sh_shr X Y i hi) W
  have en : IntKind.i64.wrap (-(smallN X 256 : Int)) = -(smallN X 256 : Int) := by have := smallN_le X 256; rw [IntKind.wrap_i64]; omega
  generalize smallN X 256 = sm at *
  obtain ⟨x0, x1, x2, x3, hx⟩ := wv_form X
  obtain ⟨y0, y1, y2, y3, hy⟩ := wv_form Y
  obtain ⟨z0, z1, z2, z3, hz⟩ := wv_form (shrN (X % M256) Y)
  simp only [hx, hy, hz] at c1 c2 ⊢
  have C1 := hideP c1
  have C2 := hideP c2
  clear c1 c2 hx hy hz
  go_enter Try.func63, Try.ntmps63
  go_wp2_with fail
  refine at_world_t (fun W0 hW0 => ?_)
  have HBx : W0.heap[w.heap.size]? = some (.cells #[.int .u64 x0, .int .u64 x1, .int .u64 x2, .int .u64 x3] 23 (0, 0)) := by
    rw [hW0, heap_old _ _ (by simp <;> omega), heap_old _ _ (by simp <;> omega)]
    exact heap_new _ _
  have HBy : W0.heap[w.heap.size + 1]? = some (.cells #[.int .u64 y0, .int .u64 y1, .int .u64 y2, .int .u64 y3] 23 (0, 0)) := by
    rw [hW0, heap_old _ _ (by simp <;> omega)]
    exact heap_new1 _ _ _
  have HBr : W0.heap[w.heap.size + 1 + 1]? = some (.cells #[.int .u64 0, .int .u64 0, .int .u64 0, .int .u64 0] 23 (0, 0)) := by
    rw [hW0]
    exact heap_new2 _ _ _ _
  have HBW : Hid (Below w.heap.size w W0) := by
    show Below _ _ _
    rw [hW0]
    exact ((((Below.refl _ w).alloc (Nat.le_refl _) _).alloc (by simp) _).alloc (by simp <;> omega) _)
  clear hW0
  refine wp_region_heldS (S := KeepT 23 W0 (w.heap.size + 1 + 1)) (by kernel_rfl) (KeepT.init HBr) (fun hS => ?_)
  refine wpAnyH_takeL (i := 0) (v := ?_) rfl (by kernel_rfl) (by kernel_rfl) (by kernel_rfl) (fun _ _ _ h => h) (Or.inl ⟨by kernel_rfl, ?_⟩) hS ?_
  rotate_left
  · intro V hV
    obtain ⟨k0, k1, k2, k3⟩ := hV.cells HBy (by omega)
    go_simp
    (try with_reducible rfl)
  simp only [put_list, List.set_cons_succ, List.set_cons_zero]
  refine wpAnyH_takeL (i := 1) (v := ?_) rfl (by kernel_rfl) (by kernel_rfl) (by kernel_rfl) (fun _ _ _ h => h) (Or.inl ⟨by kernel_rfl, ?_⟩) hS ?_
  rotate_left
  · intro V hV
    obtain ⟨k0, k1, k2, k3⟩ := hV.cells HBx (by omega)
    go_simp
    (try with_reducible rfl)
  simp only [put_list, List.set_cons_succ, List.set_cons_zero]
  refine wpAnyH_ready (rs := [2]) (by kernel_rfl) (by simp) (AllReadyH.cons rfl (fun K hK => ?_) AllReadyH.nil)
  go_simp
  refine (C1.out _).mono ?_
  rintro e U1 ⟨rfl, hbc⟩
  refine hK.out _ _ (hS.call hbc) (fun hS => ?_)
  clear hK K hbc
  refine wpAnyH_takeL (i := 3) (v := ?_) rfl (by kernel_rfl) (by kernel_rfl) (by kernel_rfl) (fun _ _ _ h => h) (Or.inl ⟨by kernel_rfl, ?_⟩) hS ?_
  rotate_left
  · intro V hV
    go_simp
    (try with_reducible rfl)
  simp only [put_list, List.set_cons_succ, List.set_cons_zero]
  refine wpAnyH_ready (rs := [4]) (by kernel_rfl) (by simp) (AllReadyH.cons rfl (fun K hK => ?_) AllReadyH.nil)
  go_simp
  refine (C2.out _).mono ?_
  rintro e U2 ⟨rfl, hbc⟩
  refine hK.out _ _ (hS.call hbc) (fun hS => ?_)
  clear hK K hbc
  obtain ⟨r0, r1, r2, r3, j0, j1, j2, j3, jf⟩ := hS.room
  refine wpAnyH_ready (rs := [5]) (by kernel_rfl) (by simp) (AllReadyH.cons rfl (fun K hK => ?_) AllReadyH.nil)
  go_simp
  refine hK.out _ _ (hS.store _ _ _ _) (fun hS => ?_)
  clear hK K jf
  refine wpAnyH_done (by kernel_rfl) ?_ _
  go_wp2_with fail
  refine bodyPost_ret (v := .agg #[.int .u64 z0, .int .u64 z1, .int .u64 z2, .int .u64 z3]) (by simp [results, Try.results63, go_sem, j0, j1, j2, j3]) rfl ⟨rfl, ?_⟩
  exact HBW.out.trans (hS.below.mono (by omega))

set_option maxHeartbeats 4000000 in
set_option maxRecDepth 100000 in
theorem refSar_any (X Y : Nat) (w : World) : Calls Try.prog 65 #[wv X, wv Y] w fun e w' => e = .returned (wv (sarN (X % M256) Y)) ∧ Below w.heap.size w w' := by
  have c1 := fun W => refSmall_any X 256 (by omega) W
  have c2 := fun W => refShift_any Y (-((smallN X 256 : Nat) : Int)) (bt Y 255) (sarN (X % M256) Y) (by have := smallN_le X 256; omega) (by omega) (bt_le _ _) (fun i hi => sh_sar X Y i hi) W
  have en : IntKind.i64.wrap (-(smallN X 256 : Int)) = -(smallN X 256 : Int) := by have := smallN_le X 256; rw [IntKind.wrap_i64]; omega
  generalize smallN X 256 = sm at *
  obtain ⟨x0, x1, x2, x3, hx⟩ := wv_form X
  obtain ⟨y0, y1, y2, y3, hy, hfill⟩ := wv_form_top Y
  generalize bt Y 255 = fb at *
  obtain ⟨z0, z1, z2, z3, hz⟩ := wv_form (sarN (X % M256) Y)
  simp only [hx, hy, hz] at c1 c2 ⊢
  have C1 := hideP c1
  have C2 := hideP c2
  clear c1 c2 hx hy hz
  go_enter Try.func65, Try.ntmps65
  go_wp2_with fail
  refine at_world_t (fun W0 hW0 => ?_)
  have HBx : W0.heap[w.heap.size]? = some (.cells #[.int .u64 x0, .int .u64 x1, .int .u64 x2, .int .u64 x3] 23 (0, 0)) := by
    rw [hW0, heap_old _ _ (by simp <;> omega), heap_old _ _ (by simp <;> omega)]
    exact heap_new _ _
  have HBy : W0.heap[w.heap.size + 1]? = some (.cells #[.int .u64 y0, .int .u64 y1, .int .u64 y2, .int .u64 y3] 23 (0, 0)) := by
    rw [hW0, heap_old _ _ (by simp <;> omega)]
    exact heap_new1 _ _ _
  have HBr : W0.heap[w.heap.size + 1 + 1]? = some (.cells #[.int .u64 0, .int .u64 0, .int .u64 0, .int .u64 0] 23 (0, 0)) := by
    rw [hW0]
    exact heap_new2 _ _ _ _
  have HBW : Hid (Below w.heap.size w W0) := by
    show Below _ _ _
    rw [hW0]
    exact ((((Below.refl _ w).alloc (Nat.le_refl _) _).alloc (by simp) _).alloc (by simp <;> omega) _)
  clear hW0
  refine wp_region_heldS (S := KeepT 23 W0 (w.heap.size + 1 + 1)) (by kernel_rfl) (KeepT.init HBr) (fun hS => ?_)
  refine wpAnyH_takeL (i := 0) (v := ?_) rfl (by kernel_rfl) (by kernel_rfl) (by kernel_rfl) (fun _ _ _ h => h) (Or.inl ⟨by kernel_rfl, ?_⟩) hS ?_
  rotate_left
  · intro V hV
    obtain ⟨k0, k1, k2, k3⟩ := hV.cells HBy (by omega)
    go_simp
    (try with_reducible rfl)
  simp only [put_list, List.set_cons_succ, List.set_cons_zero]
  refine wpAnyH_takeL (i := 1) (v := ?_) rfl (by kernel_rfl) (by kernel_rfl) (by kernel_rfl) (fun _ _ _ h => h) (Or.inl ⟨by kernel_rfl, ?_⟩) hS ?_
  rotate_left
  · intro V hV
    obtain ⟨k0, k1, k2, k3⟩ := hV.cells HBx (by omega)
    go_simp
    (try with_reducible rfl)
  simp only [put_list, List.set_cons_succ, List.set_cons_zero]
  refine wpAnyH_takeL (i := 4) (v := ?_) rfl (by kernel_rfl) (by kernel_rfl) (by kernel_rfl) (fun _ _ _ h => h) (Or.inl ⟨by kernel_rfl, ?_⟩) hS ?_
  rotate_left
  · intro V hV
    go_simp
    (try with_reducible rfl)
  simp only [put_list, List.set_cons_succ, List.set_cons_zero]
  refine wpAnyH_takeL (i := 5) (v := ?_) rfl (by kernel_rfl) (by kernel_rfl) (by kernel_rfl) (fun _ _ _ h => h) (Or.inl ⟨by kernel_rfl, ?_⟩) hS ?_
  rotate_left
  · intro V hV
    obtain ⟨k0, k1, k2, k3⟩ := hV.cells HBy (by omega)
    go_simp
    (try with_reducible rfl)
  simp only [put_list, List.set_cons_succ, List.set_cons_zero]
  refine wpAnyH_takeL (i := 6) (v := ?_) rfl (by kernel_rfl) (by kernel_rfl) (by kernel_rfl) (fun _ _ _ h => h) (Or.inl ⟨by kernel_rfl, ?_⟩) hS ?_
  rotate_left
  · intro V hV
    go_simp
    (try with_reducible rfl)
  simp only [put_list, List.set_cons_succ, List.set_cons_zero]
  refine wpAnyH_ready (rs := [2]) (by kernel_rfl) (by simp) (AllReadyH.cons rfl (fun K hK => ?_) AllReadyH.nil)
  go_simp
  refine (C1.out _).mono ?_
  rintro e U1 ⟨rfl, hbc⟩
  refine hK.out _ _ (hS.call hbc) (fun hS => ?_)
  clear hK K hbc
  refine wpAnyH_takeL (i := 3) (v := ?_) rfl (by kernel_rfl) (by kernel_rfl) (by kernel_rfl) (fun _ _ _ h => h) (Or.inl ⟨by kernel_rfl, ?_⟩) hS ?_
  rotate_left
  · intro V hV
    go_simp
    (try with_reducible rfl)
  simp only [put_list, List.set_cons_succ, List.set_cons_zero]
  refine wpAnyH_ready (rs := [7]) (by kernel_rfl) (by simp) (AllReadyH.cons rfl (fun K hK => ?_) AllReadyH.nil)
  go_simp
  refine (C2.out _).mono ?_
  rintro e U2 ⟨rfl, hbc⟩
  refine hK.out _ _ (hS.call hbc) (fun hS => ?_)
  clear hK K hbc
  obtain ⟨r0, r1, r2, r3, j0, j1, j2, j3, jf⟩ := hS.room
  refine wpAnyH_ready (rs := [8]) (by kernel_rfl) (by simp) (AllReadyH.cons rfl (fun K hK => ?_) AllReadyH.nil)
  go_simp
  refine hK.out _ _ (hS.store _ _ _ _) (fun hS => ?_)
  clear hK K jf
  refine wpAnyH_done (by kernel_rfl) ?_ _
  go_wp2_with fail
  refine bodyPost_ret (v := .agg #[.int .u64 z0, .int .u64 z1, .int .u64 z2, .int .u64 z3]) (by simp [results, Try.results65, go_sem, j0, j1, j2, j3]) rfl ⟨rfl, ?_⟩
  exact HBW.out.trans (hS.below.mono (by omega))

end Go.Proofs.Ytpnijncoldihfaa
