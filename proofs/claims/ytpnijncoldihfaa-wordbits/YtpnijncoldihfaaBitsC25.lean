/-
  Signed words: shifted, extended, held against one another.
-/
import Derived.Test.YtpnijncoldihfaaBitsC15
import Derived.Test.YtpnijncoldihfaaBitsC23
import Derived.Test.YtpnijncoldihfaaBitsC24
import Derived.Test.YtpnijncoldihfaaBitsC18
namespace Go.Proofs.Ytpnijncoldihfaa
open Go.RowKit Go.Shelf

/-- Shifted right. -/
def shrN (n X : Nat) : Nat := if n < 256 then X % M256 / 2 ^ n else 0

/-- Shifted left. -/
def shlN (n X : Nat) : Nat := if n < 256 then X * 2 ^ n else 0

/-- Shifted right, as a signed number. -/
def sarN (n X : Nat) : Nat := if negB X then M256 - 1 - shrN n (M256 - 1 - X % M256) % M256 else shrN n X

theorem shr_any (N X : Nat) (w : World) : Calls Try.prog 62 #[wv N, wv X] w fun e w' => e = .returned (wv (shrN (N % M256) X)) ∧ Below w.heap.size w w' := by
  unfold shrN
  by_cases h : N % M256 < 256
  · rw [if_pos h]; exact shr_in N X h w
  · rw [if_neg h]; exact shr_out N X (by omega) w

theorem shl_any (N X : Nat) (w : World) : Calls Try.prog 60 #[wv N, wv X] w fun e w' => e = .returned (wv (shlN (N % M256) X)) ∧ Below w.heap.size w w' := by
  unfold shlN
  by_cases h : N % M256 < 256
  · rw [if_pos h]; exact shl_in N X h w
  · rw [if_neg h]; exact shl_out N X (by omega) w

set_option maxHeartbeats 1000000 in
set_option maxRecDepth 100000 in
theorem sCmp_any (X Y : Nat) (w : World) : Calls Try.prog 50 #[wv X, wv Y] w fun e w' => e = .returned (.int .i64 (cmpI ((X + S255) % M256) ((Y + S255) % M256))) ∧ Below w.heap.size w w' := by
  have c1 := fun W => turnSign_any X W
  have c2 := fun W => turnSign_any Y W
  have c3 := fun W => cmp_any (X + S255) (Y + S255) W
  obtain ⟨x0, x1, x2, x3, hx⟩ := wv_form X
  obtain ⟨y0, y1, y2, y3, hy⟩ := wv_form Y
  obtain ⟨a0, a1, a2, a3, ha⟩ := wv_form (X + S255)
  obtain ⟨b0, b1, b2, b3, hb⟩ := wv_form (Y + S255)
  simp only [hx, hy, ha, hb] at c1 c2 c3 ⊢
  have C1 := hideP c1
  have C2 := hideP c2
  have C3 := hideP c3
  clear c1 c2 c3 hx hy ha hb
  generalize cmpI ((X + S255) % M256) ((Y + S255) % M256) = r at C3 ⊢
  go_enter Try.func50, Try.ntmps50
  go_wp2_with fail
  refine at_world (fun W0 hW0 => ?_)
  have HBx : W0.heap[w.heap.size]? = some (.cells #[.int .u64 x0, .int .u64 x1, .int .u64 x2, .int .u64 x3] 24 (0, 0)) := by
    rw [hW0, heap_old _ _ (by simp <;> omega)]
    exact heap_new _ _
  have HBy : W0.heap[w.heap.size + 1]? = some (.cells #[.int .u64 y0, .int .u64 y1, .int .u64 y2, .int .u64 y3] 24 (0, 0)) := by
    rw [hW0]
    exact heap_new1 _ _ _
  have HBW : Hid (Below w.heap.size w W0) := by
    show Below _ _ _
    rw [hW0]
    exact (((Below.refl _ w).alloc (Nat.le_refl _) _).alloc (by simp <;> omega) _)
  clear hW0
  obtain ⟨cx0, cx1, cx2, cx3⟩ := cells4 HBx
  obtain ⟨cy0, cy1, cy2, cy3⟩ := cells4 HBy
  have hlx := lt_of_block HBx
  have hly := lt_of_block HBy
  clear HBx HBy
  refine wp_region_heldS (S := fun V => Below W0.heap.size W0 V) (by kernel_rfl) (Below.refl _ _).drew (fun hS => ?_)
  refine wpAnyH_takeL (i := 0) (v := ?_) rfl (by kernel_rfl) (by kernel_rfl) (by kernel_rfl) (fun _ _ _ h => h) (Or.inl ⟨by kernel_rfl, ?_⟩) hS ?_
  rotate_left
  · intro V hV
    have k0 := (hV.cell (p := ⟨w.heap.size, 0, none⟩) hlx).trans cx0
    have k1 := (hV.cell (p := ⟨w.heap.size, 1, none⟩) hlx).trans cx1
    have k2 := (hV.cell (p := ⟨w.heap.size, 2, none⟩) hlx).trans cx2
    have k3 := (hV.cell (p := ⟨w.heap.size, 3, none⟩) hlx).trans cx3
    go_simp
    (try with_reducible rfl)
  simp only [put_list, List.set_cons_succ, List.set_cons_zero]
  refine wpAnyH_takeL (i := 2) (v := ?_) rfl (by kernel_rfl) (by kernel_rfl) (by kernel_rfl) (fun _ _ _ h => h) (Or.inl ⟨by kernel_rfl, ?_⟩) hS ?_
  rotate_left
  · intro V hV
    have k0 := (hV.cell (p := ⟨w.heap.size + 1, 0, none⟩) hly).trans cy0
    have k1 := (hV.cell (p := ⟨w.heap.size + 1, 1, none⟩) hly).trans cy1
    have k2 := (hV.cell (p := ⟨w.heap.size + 1, 2, none⟩) hly).trans cy2
    have k3 := (hV.cell (p := ⟨w.heap.size + 1, 3, none⟩) hly).trans cy3
    go_simp
    (try with_reducible rfl)
  simp only [put_list, List.set_cons_succ, List.set_cons_zero]
  refine wpAnyH_ready (rs := [1]) (by kernel_rfl) (by simp) (AllReadyH.cons rfl (fun K hK => ?_) AllReadyH.nil)
  go_simp
  refine (C1.out _).mono ?_
  rintro e U1 ⟨rfl, hbc⟩
  refine hK.out _ _ (hS.trans (hbc.mono hS.size)) (fun hS => ?_)
  clear hK K hbc
  refine wpAnyH_ready (rs := [3]) (by kernel_rfl) (by simp) (AllReadyH.cons rfl (fun K hK => ?_) AllReadyH.nil)
  go_simp
  refine (C2.out _).mono ?_
  rintro e U2 ⟨rfl, hbc⟩
  refine hK.out _ _ (hS.trans (hbc.mono hS.size)) (fun hS => ?_)
  clear hK K hbc
  refine wpAnyH_ready (rs := [4]) (by kernel_rfl) (by simp) (AllReadyH.cons rfl (fun K hK => ?_) AllReadyH.nil)
  go_simp
  refine (C3.out _).mono ?_
  rintro e U3 ⟨rfl, hbc⟩
  refine hK.out _ _ (hS.trans (hbc.mono hS.size)) (fun hS => ?_)
  clear hK K hbc
  refine wpAnyH_ready (rs := [5]) (by kernel_rfl) (by simp) (AllReadyH.cons rfl (fun K hK => ?_) AllReadyH.nil)
  go_simp
  refine hK.out _ _ hS (fun hS => ?_)
  clear hK K
  refine wpAnyH_done (by kernel_rfl) ?_ _
  go_wp2_with fail
  go_ret
  exact ⟨rfl, HBW.out.trans (hS.mono HBW.out.size)⟩

set_option maxHeartbeats 2000000 in
set_option maxRecDepth 100000 in
theorem sar_any (N X : Nat) (w : World) : Calls Try.prog 64 #[wv N, wv X] w fun e w' => e = .returned (wv (sarN (N % M256) X)) ∧ Below w.heap.size w w' := by
  have c1 := fun W => isNegative_any X W
  obtain ⟨n0, n1, n2, n3, hn⟩ := wv_form N
  obtain ⟨x0, x1, x2, x3, hx⟩ := wv_form X
  unfold sarN
  by_cases hneg : negB X = true
  · rw [if_pos hneg]
    rw [hneg] at c1
    have c2 := fun W => not_any X W
    have c3 := fun W => shr_any N (M256 - 1 - X % M256) W
    have c4 := fun W => not_any (shrN (N % M256) (M256 - 1 - X % M256)) W
    obtain ⟨a0, a1, a2, a3, ha⟩ := wv_form (M256 - 1 - X % M256)
    obtain ⟨b0, b1, b2, b3, hb⟩ := wv_form (shrN (N % M256) (M256 - 1 - X % M256))
    obtain ⟨s0, s1, s2, s3, hs⟩ := wv_form (M256 - 1 - shrN (N % M256) (M256 - 1 - X % M256) % M256)
    simp only [hn, hx, ha, hb, hs] at c1 c2 c3 c4 ⊢
    have C1 := hideP c1
    have C2 := hideP c2
    have C3 := hideP c3
    have C4 := hideP c4
    clear c1 c2 c3 c4 hn hx ha hb hs hneg
    go_enter Try.func64, Try.ntmps64
    go_wp2_with fail
    refine (C1.out _).mono ?_
    rintro e V1 ⟨rfl, hb⟩
    have HBn : V1.heap[w.heap.size]? = some (.cells #[.int .u64 n0, .int .u64 n1, .int .u64 n2, .int .u64 n3] 24 (0, 0)) := (kept4 hb ((heap_old _ _ (by simp <;> omega)).trans ((heap_old _ _ (by simp)).trans (heap_new _ _)))).1
    have HBx : V1.heap[w.heap.size + 1]? = some (.cells #[.int .u64 x0, .int .u64 x1, .int .u64 x2, .int .u64 x3] 24 (0, 0)) := (kept4 hb ((heap_old _ _ (by simp)).trans (heap_new1 _ _ _))).1
    have HBr : V1.heap[w.heap.size + 1 + 1]? = some (.cells #[.int .u64 0, .int .u64 0, .int .u64 0, .int .u64 0] 24 (0, 0)) := (kept4 hb (heap_new2 _ _ _ _)).1
    have HBW : Hid (Below w.heap.size w V1) := ((((Below.refl _ w).alloc (Nat.le_refl _) _).alloc (by simp) _).alloc (by simp <;> omega) _).trans (hb.mono (by simp <;> omega))
    clear hb
    go_wp2_with fail
    refine wp_region_heldS (S := KeepR V1 (w.heap.size + 1 + 1)) (by kernel_rfl) (KeepR.init HBr) (fun hS => ?_)
    refine wpAnyH_takeL (i := 0) (v := ?_) rfl (by kernel_rfl) (by kernel_rfl) (by kernel_rfl) (fun _ _ _ h => h) (Or.inl ⟨by kernel_rfl, ?_⟩) hS ?_
    rotate_left
    · intro V hV
      obtain ⟨k0, k1, k2, k3⟩ := hV.cells HBn (by omega)
      go_simp
      (try with_reducible rfl)
    simp only [put_list, List.set_cons_succ, List.set_cons_zero]
    refine wpAnyH_takeL (i := 1) (v := ?_) rfl (by kernel_rfl) (by kernel_rfl) (by kernel_rfl) (fun _ _ _ h => h) (Or.inl ⟨by kernel_rfl, ?_⟩) hS ?_
    rotate_left
    · intro V hV
      obtain ⟨k0, k1, k2, k3⟩ := hV.cells HBx (by omega)
      go_simp
      (try with_reducible rfl)
    simp only [put_list, List.set_cons_succ, List.set_cons_zero]
    refine wpAnyH_ready (rs := [2]) (by kernel_rfl) (by simp) (AllReadyH.cons rfl (fun K hK => ?_) AllReadyH.nil)
    go_simp
    refine (C2.out _).mono ?_
    rintro e U1 ⟨rfl, hbc⟩
    refine hK.out _ _ (hS.call hbc) (fun hS => ?_)
    clear hK K hbc
    refine wpAnyH_ready (rs := [3]) (by kernel_rfl) (by simp) (AllReadyH.cons rfl (fun K hK => ?_) AllReadyH.nil)
    go_simp
    refine (C3.out _).mono ?_
    rintro e U2 ⟨rfl, hbc⟩
    refine hK.out _ _ (hS.call hbc) (fun hS => ?_)
    clear hK K hbc
    refine wpAnyH_ready (rs := [4]) (by kernel_rfl) (by simp) (AllReadyH.cons rfl (fun K hK => ?_) AllReadyH.nil)
    go_simp
    refine (C4.out _).mono ?_
    rintro e U3 ⟨rfl, hbc⟩
    refine hK.out _ _ (hS.call hbc) (fun hS => ?_)
    clear hK K hbc
    obtain ⟨r0, r1, r2, r3, j0, j1, j2, j3, jf⟩ := hS.room
    refine wpAnyH_ready (rs := [5]) (by kernel_rfl) (by simp) (AllReadyH.cons rfl (fun K hK => ?_) AllReadyH.nil)
    go_simp
    refine hK.out _ _ (hS.store _ _ _ _) (fun hS => ?_)
    clear hK K jf
    refine wpAnyH_done (by kernel_rfl) ?_ _
    go_wp2_with fail
    refine bodyPost_ret (v := .agg #[.int .u64 s0, .int .u64 s1, .int .u64 s2, .int .u64 s3]) (by simp [results, Try.results64, go_sem, World.cell?_setCell_same, j0, j1, j2, j3]) rfl ⟨rfl, ?_⟩
    exact HBW.out.trans (hS.below.mono (by omega))
  · have hneg' : negB X = false := by simpa using hneg
    rw [if_neg hneg]
    rw [hneg'] at c1
    have c2 := fun W => shr_any N X W
    obtain ⟨s0, s1, s2, s3, hs⟩ := wv_form (shrN (N % M256) X)
    simp only [hn, hx, hs] at c1 c2 ⊢
    have C1 := hideP c1
    have C2 := hideP c2
    clear c1 c2 hn hx hs hneg hneg'
    go_enter Try.func64, Try.ntmps64
    go_wp2_with fail
    refine (C1.out _).mono ?_
    rintro e V1 ⟨rfl, hb⟩
    have HBn : V1.heap[w.heap.size]? = some (.cells #[.int .u64 n0, .int .u64 n1, .int .u64 n2, .int .u64 n3] 24 (0, 0)) := (kept4 hb ((heap_old _ _ (by simp <;> omega)).trans ((heap_old _ _ (by simp)).trans (heap_new _ _)))).1
    have HBx : V1.heap[w.heap.size + 1]? = some (.cells #[.int .u64 x0, .int .u64 x1, .int .u64 x2, .int .u64 x3] 24 (0, 0)) := (kept4 hb ((heap_old _ _ (by simp)).trans (heap_new1 _ _ _))).1
    have HBr : V1.heap[w.heap.size + 1 + 1]? = some (.cells #[.int .u64 0, .int .u64 0, .int .u64 0, .int .u64 0] 24 (0, 0)) := (kept4 hb (heap_new2 _ _ _ _)).1
    have HBW : Hid (Below w.heap.size w V1) := ((((Below.refl _ w).alloc (Nat.le_refl _) _).alloc (by simp) _).alloc (by simp <;> omega) _).trans (hb.mono (by simp <;> omega))
    clear hb
    obtain ⟨cn0, cn1, cn2, cn3⟩ := cells4 HBn
    obtain ⟨cx0, cx1, cx2, cx3⟩ := cells4 HBx
    go_wp2_with fail
    refine (C2.out _).mono ?_
    rintro e V2 ⟨rfl, hb⟩
    obtain ⟨hk, q0, q1, q2, q3, f0, f1, f2, f3⟩ := kept4 hb HBr
    replace HBW : Hid (Below w.heap.size w V2) := HBW.out.trans (hb.mono HBW.out.size)
    clear hb cn0 cn1 cn2 cn3 cx0 cx1 cx2 cx3 HBn HBx HBr hk
    go_wp2
    refine bodyPost_ret (v := .agg #[.int .u64 s0, .int .u64 s1, .int .u64 s2, .int .u64 s3]) (by simp [results, Try.results64, go_sem, World.cell?_setCell_same, q0, q1, q2, q3]) rfl ⟨rfl, ?_⟩
    repeat first | exact HBW.out | apply Below.drew | (refine Below.setCell ?_ (by simp <;> omega) _)

end Go.Proofs.Ytpnijncoldihfaa
