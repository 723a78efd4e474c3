/-
  Sums, differences and products are the document's: the walk of the law.
-/
import Derived.Test.YtpnijncoldihfaaSumsC42
namespace Go.Proofs.Ytpnijncoldihfaa
open Go.RowKit Go.Shelf

set_option maxHeartbeats 16000000 in
set_option maxRecDepth 100000 in
theorem sums_in (X Y n : Nat) (hn : n < 18446744073709551616) (hsm : X % M256 < 18446744073709551616) (w : World) : Calls Try.prog 3 #[wv X, wv Y, .int .u64 n] w fun e w' => e = .returned (.bool true) ∧ Below w.heap.size w w' := by
  have hcm : cmpI (X % M256) (18446744073709551615 % M256) ≤ 0 := by
    rw [show 18446744073709551615 % M256 = 18446744073709551615 by decide, cmp_le]
    exact hsm
  have hbo : decide (cmpI (X % M256) (Y % M256) < 0) = decide (X % M256 < Y % M256) := cmp_neg _ _
  have k3 := fun W => small_in X hsm W
  have hx0 : wv X = .agg #[.int .u64 ((X % M256 : Nat) : Int), .int .u64 0, .int .u64 0, .int .u64 0] := by
    rw [← wv_small hsm]; exact wv_congr (Nat.mod_mod _ _).symm
  have k1 := fun W => carryB X Y W
  have k2 := fun W => borrowB X Y W
  have k4 := fun W => refCmp_any X 18446744073709551615 W
  have k14 := fun W => refCarries_any X Y W
  have k15 := fun W => refCmp_any X Y W
  have k16 := fun W => wide_any X Y W
  have k17 := fun W => refWide_any X Y W
  have hmx : wv 18446744073709551615 = .agg #[.int .u64 18446744073709551615, .int .u64 0, .int .u64 0, .int .u64 0] := rfl
  rw [hmx] at k4
  clear hmx
  generalize cmpI (X % M256) (18446744073709551615 % M256) = cm at hcm k4
  generalize cmpI (X % M256) (Y % M256) = ci at hbo k15
  generalize decide (X % M256 < Y % M256) = bb at hbo k2
  generalize decide (M256 ≤ X % M256 + Y % M256) = cb at k1 k14
  obtain ⟨q0, q1, q2, q3, q4, q5, q6, q7, hq⟩ := w8_form (X % M256 * (Y % M256))
  rw [hq] at k16 k17
  clear hq
  have he8 := fun W => eq8 q0 q1 q2 q3 q4 q5 q6 q7 W
  obtain ⟨x0, x1, x2, x3, hx⟩ := wv_form X
  obtain ⟨y0, y1, y2, y3, hy⟩ := wv_form Y
  obtain ⟨s0, s1, s2, s3, hs⟩ := wv_form (X + Y)
  obtain ⟨d0, d1, d2, d3, hd⟩ := wv_form (X + negN Y)
  obtain ⟨p0, p1, p2, p3, hp⟩ := wv_form (X * Y)
  obtain ⟨a0, a1, a2, a3, ha⟩ := wv_form n
  have hv0 : x0 = ((X % M256 : Nat) : Int) := by
    rw [hx] at hx0
    simp only [Value.agg.injEq, Array.mk.injEq, List.cons.injEq, Value.int.injEq, true_and] at hx0
    exact hx0.1
  rw [← hv0] at k3
  clear hx0 hv0
  simp only [hx, hy, hs] at k1
  have Ck1 := hideP k1
  clear k1
  simp only [hx, hy, hd] at k2
  have Ck2 := hideP k2
  clear k2
  simp only [hx] at k3
  have Ck3 := hideP k3
  clear k3
  simp only [hx] at k4
  have Ck4 := hideP k4
  clear k4
  simp only [hx, hy] at k14
  have Ck14 := hideP k14
  clear k14
  simp only [hx, hy] at k15
  have Ck15 := hideP k15
  clear k15
  simp only [hx, hy] at k16
  have Ck16 := hideP k16
  clear k16
  simp only [hx, hy] at k17
  have Ck17 := hideP k17
  clear k17
  have k5 := fun W => of_any n hn W
  simp only [ha] at k5
  have Ck5 := hideP k5
  clear k5
  have k6 := fun W => refOf_any n hn W
  simp only [ha] at k6
  have Ck6 := hideP k6
  clear k6
  have k7 := fun W => same_any n W
  simp only [ha] at k7
  have Ck7 := hideP k7
  clear k7
  have k8 := fun W => add_any W X Y
  simp only [hx, hy, hs] at k8
  have Ck8 := hideP k8
  clear k8
  have k9 := fun W => refAdd_any X Y W
  simp only [hx, hy, hs] at k9
  have Ck9 := hideP k9
  clear k9
  have k10 := fun W => same_any (X + Y) W
  simp only [hs] at k10
  have Ck10 := hideP k10
  clear k10
  have k11 := fun W => sub_any W X Y
  simp only [hx, hy, hd] at k11
  have Ck11 := hideP k11
  clear k11
  have k12 := fun W => refSub_any X Y W
  simp only [hx, hy, hd] at k12
  have Ck12 := hideP k12
  clear k12
  have k13 := fun W => same_any (X + negN Y) W
  simp only [hd] at k13
  have Ck13 := hideP k13
  clear k13
  have k18 := fun W => mul_any X Y W
  simp only [hx, hy, hp] at k18
  have Ck18 := hideP k18
  clear k18
  have k19 := fun W => refMul_any X Y W
  simp only [hx, hy, hp] at k19
  have Ck19 := hideP k19
  clear k19
  have k20 := fun W => same_any (X * Y) W
  simp only [hp] at k20
  have Ck20 := hideP k20
  clear k20
  have CAW := hideP (fun W => awake_any W)
  simp only [hx, hy]
  clear hx hy hs hd hp ha hn hsm
  go_enter Try.func3, Try.ntmps3
  go_wp2_with fail
  refine (Ck1.out _).mono ?_
  rintro e W0 ⟨rfl, hb⟩
  have HBx : Hid (W0.heap[w.heap.size]? = some (.cells #[.int .u64 x0, .int .u64 x1, .int .u64 x2, .int .u64 x3] 24 (0, 0))) := (kept4 hb ((heap_old _ _ (by simp <;> omega)).trans (heap_new _ _))).1
  have HBy : Hid (W0.heap[w.heap.size + 1]? = some (.cells #[.int .u64 y0, .int .u64 y1, .int .u64 y2, .int .u64 y3] 24 (0, 0))) := (kept4 hb (heap_new1 _ _ _)).1
  have HBW : Hid (Below w.heap.size w W0) := (((Below.refl _ w).alloc (Nat.le_refl _) _).alloc (by simp <;> omega) _).trans (hb.mono (by simp <;> omega))
  clear hb
  obtain ⟨cx0, cx1, cx2, cx3⟩ := cells4 HBx.out
  have hlx := (Array.getElem?_eq_some_iff.1 HBx.out).1
  obtain ⟨cy0, cy1, cy2, cy3⟩ := cells4 HBy.out
  have hly := (Array.getElem?_eq_some_iff.1 HBy.out).1
  go_wp2_with fail
  refine at_world_calls (fun V1 hU => ?_)
  have HBs : Hid (V1.heap[W0.heap.size]? = some (.cells #[.int .u64 s0, .int .u64 s1, .int .u64 s2, .int .u64 s3] 24 (0, 0))) := by
    show _ = _
    rw [hU]
    exact heap_new _ _
  have hb : Below W0.heap.size W0 V1 := by
    rw [hU]
    exact (Below.refl _ _).alloc (Nat.le_refl _) _
  clear hU
  replace HBx : Hid (V1.heap[w.heap.size]? = some (.cells #[.int .u64 x0, .int .u64 x1, .int .u64 x2, .int .u64 x3] 24 (0, 0))) := (hb.block _ (Array.getElem?_eq_some_iff.1 HBx.out).1).trans HBx.out
  replace HBy : Hid (V1.heap[w.heap.size + 1]? = some (.cells #[.int .u64 y0, .int .u64 y1, .int .u64 y2, .int .u64 y3] 24 (0, 0))) := (hb.block _ (Array.getElem?_eq_some_iff.1 HBy.out).1).trans HBy.out
  replace HBW : Hid (Below w.heap.size w V1) := HBW.out.trans (hb.mono HBW.out.size)
  clear hb
  clear cx0 cx1 cx2 cx3 hlx
  clear cy0 cy1 cy2 cy3 hly
  refine (Ck2.out _).mono ?_
  rintro e V2 ⟨rfl, hb⟩
  replace HBx : Hid (V2.heap[w.heap.size]? = some (.cells #[.int .u64 x0, .int .u64 x1, .int .u64 x2, .int .u64 x3] 24 (0, 0))) := (hb.block _ (Array.getElem?_eq_some_iff.1 HBx.out).1).trans HBx.out
  replace HBy : Hid (V2.heap[w.heap.size + 1]? = some (.cells #[.int .u64 y0, .int .u64 y1, .int .u64 y2, .int .u64 y3] 24 (0, 0))) := (hb.block _ (Array.getElem?_eq_some_iff.1 HBy.out).1).trans HBy.out
  replace HBs : Hid (V2.heap[W0.heap.size]? = some (.cells #[.int .u64 s0, .int .u64 s1, .int .u64 s2, .int .u64 s3] 24 (0, 0))) := (hb.block _ (Array.getElem?_eq_some_iff.1 HBs.out).1).trans HBs.out
  replace HBW : Hid (Below w.heap.size w V2) := HBW.out.trans (hb.mono HBW.out.size)
  clear hb
  obtain ⟨cx0, cx1, cx2, cx3⟩ := cells4 HBx.out
  have hlx := (Array.getElem?_eq_some_iff.1 HBx.out).1
  obtain ⟨cy0, cy1, cy2, cy3⟩ := cells4 HBy.out
  have hly := (Array.getElem?_eq_some_iff.1 HBy.out).1
  go_wp2_with fail
  refine at_world_calls (fun V3 hU => ?_)
  have HBd : Hid (V3.heap[V2.heap.size]? = some (.cells #[.int .u64 d0, .int .u64 d1, .int .u64 d2, .int .u64 d3] 24 (0, 0))) := by
    show _ = _
    rw [hU]
    exact heap_new _ _
  have hb : Below V2.heap.size V2 V3 := by
    rw [hU]
    exact (Below.refl _ _).alloc (Nat.le_refl _) _
  clear hU
  replace HBx : Hid (V3.heap[w.heap.size]? = some (.cells #[.int .u64 x0, .int .u64 x1, .int .u64 x2, .int .u64 x3] 24 (0, 0))) := (hb.block _ (Array.getElem?_eq_some_iff.1 HBx.out).1).trans HBx.out
  replace HBy : Hid (V3.heap[w.heap.size + 1]? = some (.cells #[.int .u64 y0, .int .u64 y1, .int .u64 y2, .int .u64 y3] 24 (0, 0))) := (hb.block _ (Array.getElem?_eq_some_iff.1 HBy.out).1).trans HBy.out
  replace HBs : Hid (V3.heap[W0.heap.size]? = some (.cells #[.int .u64 s0, .int .u64 s1, .int .u64 s2, .int .u64 s3] 24 (0, 0))) := (hb.block _ (Array.getElem?_eq_some_iff.1 HBs.out).1).trans HBs.out
  replace HBW : Hid (Below w.heap.size w V3) := HBW.out.trans (hb.mono HBW.out.size)
  clear hb
  clear cx0 cx1 cx2 cx3 hlx
  clear cy0 cy1 cy2 cy3 hly
  refine (Ck3.out _).mono ?_
  rintro e V4 ⟨rfl, hb⟩
  replace HBx : Hid (V4.heap[w.heap.size]? = some (.cells #[.int .u64 x0, .int .u64 x1, .int .u64 x2, .int .u64 x3] 24 (0, 0))) := (hb.block _ (Array.getElem?_eq_some_iff.1 HBx.out).1).trans HBx.out
  replace HBy : Hid (V4.heap[w.heap.size + 1]? = some (.cells #[.int .u64 y0, .int .u64 y1, .int .u64 y2, .int .u64 y3] 24 (0, 0))) := (hb.block _ (Array.getElem?_eq_some_iff.1 HBy.out).1).trans HBy.out
  replace HBs : Hid (V4.heap[W0.heap.size]? = some (.cells #[.int .u64 s0, .int .u64 s1, .int .u64 s2, .int .u64 s3] 24 (0, 0))) := (hb.block _ (Array.getElem?_eq_some_iff.1 HBs.out).1).trans HBs.out
  replace HBd : Hid (V4.heap[V2.heap.size]? = some (.cells #[.int .u64 d0, .int .u64 d1, .int .u64 d2, .int .u64 d3] 24 (0, 0))) := (hb.block _ (Array.getElem?_eq_some_iff.1 HBd.out).1).trans HBd.out
  replace HBW : Hid (Below w.heap.size w V4) := HBW.out.trans (hb.mono HBW.out.size)
  clear hb
  obtain ⟨cx0, cx1, cx2, cx3⟩ := cells4 HBx.out
  have hlx := (Array.getElem?_eq_some_iff.1 HBx.out).1
  obtain ⟨cy0, cy1, cy2, cy3⟩ := cells4 HBy.out
  have hly := (Array.getElem?_eq_some_iff.1 HBy.out).1
  go_wp2_with fail
  refine (Ck4.out _).mono ?_
  rintro e V5 ⟨rfl, hb⟩
  replace HBx : Hid (V5.heap[w.heap.size]? = some (.cells #[.int .u64 x0, .int .u64 x1, .int .u64 x2, .int .u64 x3] 24 (0, 0))) := (hb.block _ (Array.getElem?_eq_some_iff.1 HBx.out).1).trans HBx.out
  replace HBy : Hid (V5.heap[w.heap.size + 1]? = some (.cells #[.int .u64 y0, .int .u64 y1, .int .u64 y2, .int .u64 y3] 24 (0, 0))) := (hb.block _ (Array.getElem?_eq_some_iff.1 HBy.out).1).trans HBy.out
  replace HBs : Hid (V5.heap[W0.heap.size]? = some (.cells #[.int .u64 s0, .int .u64 s1, .int .u64 s2, .int .u64 s3] 24 (0, 0))) := (hb.block _ (Array.getElem?_eq_some_iff.1 HBs.out).1).trans HBs.out
  replace HBd : Hid (V5.heap[V2.heap.size]? = some (.cells #[.int .u64 d0, .int .u64 d1, .int .u64 d2, .int .u64 d3] 24 (0, 0))) := (hb.block _ (Array.getElem?_eq_some_iff.1 HBd.out).1).trans HBd.out
  replace HBW : Hid (Below w.heap.size w V5) := HBW.out.trans (hb.mono HBW.out.size)
  clear hb
  clear cx0 cx1 cx2 cx3 hlx
  clear cy0 cy1 cy2 cy3 hly
  obtain ⟨cx0, cx1, cx2, cx3⟩ := cells4 HBx.out
  have hlx := (Array.getElem?_eq_some_iff.1 HBx.out).1
  obtain ⟨cy0, cy1, cy2, cy3⟩ := cells4 HBy.out
  have hly := (Array.getElem?_eq_some_iff.1 HBy.out).1
  obtain ⟨cs0, cs1, cs2, cs3⟩ := cells4 HBs.out
  have hls := (Array.getElem?_eq_some_iff.1 HBs.out).1
  obtain ⟨cd0, cd1, cd2, cd3⟩ := cells4 HBd.out
  have hld := (Array.getElem?_eq_some_iff.1 HBd.out).1
  go_wp2_with fail
  refine wp_region_heldS (S := fun V => Below V5.heap.size V5 V) (by kernel_rfl) (Below.refl _ _).drew (fun hS => ?_)
  refine wpAnyH_takeL (i := 0) (v := ?_) rfl (by kernel_rfl) (by kernel_rfl) (by kernel_rfl) (fun _ _ _ h => h) (Or.inl ⟨by kernel_rfl, ?_⟩) hS ?_
  rotate_left
  · intro V hV
    go_simp
    (try with_reducible rfl)
  simp only [put_list, List.set_cons_succ, List.set_cons_zero]
  refine wpAnyH_takeL (i := 2) (v := ?_) rfl (by kernel_rfl) (by kernel_rfl) (by kernel_rfl) (fun _ _ _ h => h) (Or.inl ⟨by kernel_rfl, ?_⟩) hS ?_
  rotate_left
  · intro V hV
    go_simp
    (try with_reducible rfl)
  simp only [put_list, List.set_cons_succ, List.set_cons_zero]
  refine wpAnyH_ready (rs := [1]) (by kernel_rfl) (by simp) (AllReadyH.cons rfl (fun K hK => ?_) AllReadyH.nil)
  go_simp
  refine (Ck5.out _).mono ?_
  rintro e U1 ⟨rfl, hbc⟩
  refine hK.out _ _ (hS.trans (hbc.mono hS.size)) (fun hS => ?_)
  clear hK K hbc
  refine wpAnyH_ready (rs := [3]) (by kernel_rfl) (by simp) (AllReadyH.cons rfl (fun K hK => ?_) AllReadyH.nil)
  go_simp
  refine (Ck6.out _).mono ?_
  rintro e U2 ⟨rfl, hbc⟩
  refine hK.out _ _ (hS.trans (hbc.mono hS.size)) (fun hS => ?_)
  clear hK K hbc
  refine wpAnyH_ready (rs := [4]) (by kernel_rfl) (by simp) (AllReadyH.cons rfl (fun K hK => ?_) AllReadyH.nil)
  go_simp
  refine (Ck7.out _).mono ?_
  rintro e U3 ⟨rfl, hbc⟩
  refine hK.out _ _ (hS.trans (hbc.mono hS.size)) (fun hS => ?_)
  clear hK K hbc
  refine wpAnyH_takeL (i := 5) (v := ?_) rfl (by kernel_rfl) (by kernel_rfl) (by kernel_rfl) (fun _ _ _ h => h) (Or.inl ⟨by kernel_rfl, ?_⟩) hS ?_
  rotate_left
  · intro V hV
    go_simp
    (try with_reducible rfl)
  simp only [put_list, List.set_cons_succ, List.set_cons_zero]
  refine wpAnyH_takeL (i := 6) (v := ?_) rfl (by kernel_rfl) (by kernel_rfl) (by kernel_rfl) (fun _ _ _ h => h) (Or.inl ⟨by kernel_rfl, ?_⟩) hS ?_
  rotate_left
  · intro V hV
    have k0 := (hV.cell (p := ⟨w.heap.size, 0, none⟩) hlx).trans cx0
    have k1 := (hV.cell (p := ⟨w.heap.size, 1, none⟩) hlx).trans cx1
    have k2 := (hV.cell (p := ⟨w.heap.size, 2, none⟩) hlx).trans cx2
    have k3 := (hV.cell (p := ⟨w.heap.size, 3, none⟩) hlx).trans cx3
    go_simp
    (try with_reducible rfl)
  simp only [put_list, List.set_cons_succ, List.set_cons_zero]
  as_aux_lemma =>
    refine wpAnyH_takeL (i := 7) (v := ?_) rfl (by kernel_rfl) (by kernel_rfl) (by kernel_rfl) (fun _ _ _ h => h) (Or.inl ⟨by kernel_rfl, ?_⟩) hS ?_
    rotate_left
    · intro V hV
      have k0 := (hV.cell (p := ⟨w.heap.size + 1, 0, none⟩) hly).trans cy0
      have k1 := (hV.cell (p := ⟨w.heap.size + 1, 1, none⟩) hly).trans cy1
      have k2 := (hV.cell (p := ⟨w.heap.size + 1, 2, none⟩) hly).trans cy2
      have k3 := (hV.cell (p := ⟨w.heap.size + 1, 3, none⟩) hly).trans cy3
      go_simp
      (try with_reducible rfl)
    simp only [put_list, List.set_cons_succ, List.set_cons_zero]
    refine wpAnyH_takeL (i := 9) (v := ?_) rfl (by kernel_rfl) (by kernel_rfl) (by kernel_rfl) (fun _ _ _ h => h) (Or.inl ⟨by kernel_rfl, ?_⟩) hS ?_
    rotate_left
    · intro V hV
      have k0 := (hV.cell (p := ⟨w.heap.size, 0, none⟩) hlx).trans cx0
      have k1 := (hV.cell (p := ⟨w.heap.size, 1, none⟩) hlx).trans cx1
      have k2 := (hV.cell (p := ⟨w.heap.size, 2, none⟩) hlx).trans cx2
      have k3 := (hV.cell (p := ⟨w.heap.size, 3, none⟩) hlx).trans cx3
      go_simp
      (try with_reducible rfl)
    simp only [put_list, List.set_cons_succ, List.set_cons_zero]
    refine wpAnyH_takeL (i := 10) (v := ?_) rfl (by kernel_rfl) (by kernel_rfl) (by kernel_rfl) (fun _ _ _ h => h) (Or.inl ⟨by kernel_rfl, ?_⟩) hS ?_
    rotate_left
    · intro V hV
      have k0 := (hV.cell (p := ⟨w.heap.size + 1, 0, none⟩) hly).trans cy0
      have k1 := (hV.cell (p := ⟨w.heap.size + 1, 1, none⟩) hly).trans cy1
      have k2 := (hV.cell (p := ⟨w.heap.size + 1, 2, none⟩) hly).trans cy2
      have k3 := (hV.cell (p := ⟨w.heap.size + 1, 3, none⟩) hly).trans cy3
      go_simp
      (try with_reducible rfl)
    simp only [put_list, List.set_cons_succ, List.set_cons_zero]
    refine wpAnyH_ready (rs := [8]) (by kernel_rfl) (by simp) (AllReadyH.cons rfl (fun K hK => ?_) AllReadyH.nil)
    go_simp
    refine (Ck8.out _).mono ?_
    rintro e U4 ⟨rfl, hbc⟩
    refine hK.out _ _ (hS.trans (hbc.mono hS.size)) (fun hS => ?_)
    clear hK K hbc
    refine wpAnyH_ready (rs := [11]) (by kernel_rfl) (by simp) (AllReadyH.cons rfl (fun K hK => ?_) AllReadyH.nil)
    go_simp
    refine (Ck9.out _).mono ?_
    rintro e U5 ⟨rfl, hbc⟩
    refine hK.out _ _ (hS.trans (hbc.mono hS.size)) (fun hS => ?_)
    clear hK K hbc
    refine wpAnyH_ready (rs := [12]) (by kernel_rfl) (by simp) (AllReadyH.cons rfl (fun K hK => ?_) AllReadyH.nil)
    go_simp
    refine (Ck10.out _).mono ?_
    rintro e U6 ⟨rfl, hbc⟩
    refine hK.out _ _ (hS.trans (hbc.mono hS.size)) (fun hS => ?_)
    clear hK K hbc
    refine wpAnyH_takeL (i := 13) (v := ?_) rfl (by kernel_rfl) (by kernel_rfl) (by kernel_rfl) (fun _ _ _ h => h) (Or.inl ⟨by kernel_rfl, ?_⟩) hS ?_
    rotate_left
    · intro V hV
      go_simp
      (try with_reducible rfl)
    simp only [put_list, List.set_cons_succ, List.set_cons_zero]
    refine wpAnyH_takeL (i := 14) (v := ?_) rfl (by kernel_rfl) (by kernel_rfl) (by kernel_rfl) (fun _ _ _ h => h) (Or.inl ⟨by kernel_rfl, ?_⟩) hS ?_
    rotate_left
    · intro V hV
      go_simp
      (try with_reducible rfl)
    simp only [put_list, List.set_cons_succ, List.set_cons_zero]
    as_aux_lemma =>
      refine wpAnyH_takeL (i := 15) (v := ?_) rfl (by kernel_rfl) (by kernel_rfl) (by kernel_rfl) (fun _ _ _ h => h) (Or.inl ⟨by kernel_rfl, ?_⟩) hS ?_
      rotate_left
      · intro V hV
        have k0 := (hV.cell (p := ⟨w.heap.size, 0, none⟩) hlx).trans cx0
        have k1 := (hV.cell (p := ⟨w.heap.size, 1, none⟩) hlx).trans cx1
        have k2 := (hV.cell (p := ⟨w.heap.size, 2, none⟩) hlx).trans cx2
        have k3 := (hV.cell (p := ⟨w.heap.size, 3, none⟩) hlx).trans cx3
        go_simp
        (try with_reducible rfl)
      simp only [put_list, List.set_cons_succ, List.set_cons_zero]
      refine wpAnyH_takeL (i := 16) (v := ?_) rfl (by kernel_rfl) (by kernel_rfl) (by kernel_rfl) (fun _ _ _ h => h) (Or.inl ⟨by kernel_rfl, ?_⟩) hS ?_
      rotate_left
      · intro V hV
        have k0 := (hV.cell (p := ⟨w.heap.size + 1, 0, none⟩) hly).trans cy0
        have k1 := (hV.cell (p := ⟨w.heap.size + 1, 1, none⟩) hly).trans cy1
        have k2 := (hV.cell (p := ⟨w.heap.size + 1, 2, none⟩) hly).trans cy2
        have k3 := (hV.cell (p := ⟨w.heap.size + 1, 3, none⟩) hly).trans cy3
        go_simp
        (try with_reducible rfl)
      simp only [put_list, List.set_cons_succ, List.set_cons_zero]
      refine wpAnyH_takeL (i := 18) (v := ?_) rfl (by kernel_rfl) (by kernel_rfl) (by kernel_rfl) (fun _ _ _ h => h) (Or.inl ⟨by kernel_rfl, ?_⟩) hS ?_
      rotate_left
      · intro V hV
        have k0 := (hV.cell (p := ⟨w.heap.size, 0, none⟩) hlx).trans cx0
        have k1 := (hV.cell (p := ⟨w.heap.size, 1, none⟩) hlx).trans cx1
        have k2 := (hV.cell (p := ⟨w.heap.size, 2, none⟩) hlx).trans cx2
        have k3 := (hV.cell (p := ⟨w.heap.size, 3, none⟩) hlx).trans cx3
        go_simp
        (try with_reducible rfl)
      simp only [put_list, List.set_cons_succ, List.set_cons_zero]
      refine wpAnyH_takeL (i := 19) (v := ?_) rfl (by kernel_rfl) (by kernel_rfl) (by kernel_rfl) (fun _ _ _ h => h) (Or.inl ⟨by kernel_rfl, ?_⟩) hS ?_
      rotate_left
      · intro V hV
        have k0 := (hV.cell (p := ⟨w.heap.size + 1, 0, none⟩) hly).trans cy0
        have k1 := (hV.cell (p := ⟨w.heap.size + 1, 1, none⟩) hly).trans cy1
        have k2 := (hV.cell (p := ⟨w.heap.size + 1, 2, none⟩) hly).trans cy2
        have k3 := (hV.cell (p := ⟨w.heap.size + 1, 3, none⟩) hly).trans cy3
        go_simp
        (try with_reducible rfl)
      simp only [put_list, List.set_cons_succ, List.set_cons_zero]
      refine wpAnyH_ready (rs := [17]) (by kernel_rfl) (by simp) (AllReadyH.cons rfl (fun K hK => ?_) AllReadyH.nil)
      go_simp
      refine (Ck11.out _).mono ?_
      rintro e U7 ⟨rfl, hbc⟩
      refine hK.out _ _ (hS.trans (hbc.mono hS.size)) (fun hS => ?_)
      clear hK K hbc
      refine wpAnyH_ready (rs := [20]) (by kernel_rfl) (by simp) (AllReadyH.cons rfl (fun K hK => ?_) AllReadyH.nil)
      go_simp
      refine (Ck12.out _).mono ?_
      rintro e U8 ⟨rfl, hbc⟩
      refine hK.out _ _ (hS.trans (hbc.mono hS.size)) (fun hS => ?_)
      clear hK K hbc
      refine wpAnyH_ready (rs := [21]) (by kernel_rfl) (by simp) (AllReadyH.cons rfl (fun K hK => ?_) AllReadyH.nil)
      go_simp
      refine (Ck13.out _).mono ?_
      rintro e U9 ⟨rfl, hbc⟩
      refine hK.out _ _ (hS.trans (hbc.mono hS.size)) (fun hS => ?_)
      clear hK K hbc
      refine wpAnyH_takeL (i := 22) (v := ?_) rfl (by kernel_rfl) (by kernel_rfl) (by kernel_rfl) (fun _ _ _ h => h) (Or.inl ⟨by kernel_rfl, ?_⟩) hS ?_
      rotate_left
      · intro V hV
        go_simp
        (try with_reducible rfl)
      simp only [put_list, List.set_cons_succ, List.set_cons_zero]
      as_aux_lemma =>
        refine wpAnyH_takeL (i := 23) (v := ?_) rfl (by kernel_rfl) (by kernel_rfl) (by kernel_rfl) (fun _ _ _ h => h) (Or.inl ⟨by kernel_rfl, ?_⟩) hS ?_
        rotate_left
        · intro V hV
          go_simp
          (try with_reducible rfl)
        simp only [put_list, List.set_cons_succ, List.set_cons_zero]
        refine wpAnyH_takeL (i := 24) (v := ?_) rfl (by kernel_rfl) (by kernel_rfl) (by kernel_rfl) (fun _ _ _ h => h) (Or.inl ⟨by kernel_rfl, ?_⟩) hS ?_
        rotate_left
        · intro V hV
          have k0 := (hV.cell (p := ⟨w.heap.size, 0, none⟩) hlx).trans cx0
          have k1 := (hV.cell (p := ⟨w.heap.size, 1, none⟩) hlx).trans cx1
          have k2 := (hV.cell (p := ⟨w.heap.size, 2, none⟩) hlx).trans cx2
          have k3 := (hV.cell (p := ⟨w.heap.size, 3, none⟩) hlx).trans cx3
          go_simp
          (try with_reducible rfl)
        simp only [put_list, List.set_cons_succ, List.set_cons_zero]
        refine wpAnyH_takeL (i := 25) (v := ?_) rfl (by kernel_rfl) (by kernel_rfl) (by kernel_rfl) (fun _ _ _ h => h) (Or.inl ⟨by kernel_rfl, ?_⟩) hS ?_
        rotate_left
        · intro V hV
          have k0 := (hV.cell (p := ⟨w.heap.size + 1, 0, none⟩) hly).trans cy0
          have k1 := (hV.cell (p := ⟨w.heap.size + 1, 1, none⟩) hly).trans cy1
          have k2 := (hV.cell (p := ⟨w.heap.size + 1, 2, none⟩) hly).trans cy2
          have k3 := (hV.cell (p := ⟨w.heap.size + 1, 3, none⟩) hly).trans cy3
          go_simp
          (try with_reducible rfl)
        simp only [put_list, List.set_cons_succ, List.set_cons_zero]
        refine wpAnyH_takeL (i := 27) (v := ?_) rfl (by kernel_rfl) (by kernel_rfl) (by kernel_rfl) (fun _ _ _ h => h) (Or.inl ⟨by kernel_rfl, ?_⟩) hS ?_
        rotate_left
        · intro V hV
          have k0 := (hV.cell (p := ⟨w.heap.size, 0, none⟩) hlx).trans cx0
          have k1 := (hV.cell (p := ⟨w.heap.size, 1, none⟩) hlx).trans cx1
          have k2 := (hV.cell (p := ⟨w.heap.size, 2, none⟩) hlx).trans cx2
          have k3 := (hV.cell (p := ⟨w.heap.size, 3, none⟩) hlx).trans cx3
          go_simp
          (try with_reducible rfl)
        simp only [put_list, List.set_cons_succ, List.set_cons_zero]
        refine wpAnyH_takeL (i := 28) (v := ?_) rfl (by kernel_rfl) (by kernel_rfl) (by kernel_rfl) (fun _ _ _ h => h) (Or.inl ⟨by kernel_rfl, ?_⟩) hS ?_
        rotate_left
        · intro V hV
          have k0 := (hV.cell (p := ⟨w.heap.size + 1, 0, none⟩) hly).trans cy0
          have k1 := (hV.cell (p := ⟨w.heap.size + 1, 1, none⟩) hly).trans cy1
          have k2 := (hV.cell (p := ⟨w.heap.size + 1, 2, none⟩) hly).trans cy2
          have k3 := (hV.cell (p := ⟨w.heap.size + 1, 3, none⟩) hly).trans cy3
          go_simp
          (try with_reducible rfl)
        simp only [put_list, List.set_cons_succ, List.set_cons_zero]
        refine wpAnyH_ready (rs := [26]) (by kernel_rfl) (by simp) (AllReadyH.cons rfl (fun K hK => ?_) AllReadyH.nil)
        go_simp
        refine (Ck18.out _).mono ?_
        rintro e U10 ⟨rfl, hbc⟩
        refine hK.out _ _ (hS.trans (hbc.mono hS.size)) (fun hS => ?_)
        clear hK K hbc
        refine wpAnyH_ready (rs := [29]) (by kernel_rfl) (by simp) (AllReadyH.cons rfl (fun K hK => ?_) AllReadyH.nil)
        go_simp
        refine (Ck19.out _).mono ?_
        rintro e U11 ⟨rfl, hbc⟩
        refine hK.out _ _ (hS.trans (hbc.mono hS.size)) (fun hS => ?_)
        clear hK K hbc
        refine wpAnyH_ready (rs := [30]) (by kernel_rfl) (by simp) (AllReadyH.cons rfl (fun K hK => ?_) AllReadyH.nil)
        go_simp
        refine (Ck20.out _).mono ?_
        rintro e U12 ⟨rfl, hbc⟩
        refine hK.out _ _ (hS.trans (hbc.mono hS.size)) (fun hS => ?_)
        clear hK K hbc
        as_aux_lemma =>
          refine wpAnyH_takeL (i := 31) (v := ?_) rfl (by kernel_rfl) (by kernel_rfl) (by kernel_rfl) (fun _ _ _ h => h) (Or.inl ⟨by kernel_rfl, ?_⟩) hS ?_
          rotate_left
          · intro V hV
            go_simp
            (try with_reducible rfl)
          simp only [put_list, List.set_cons_succ, List.set_cons_zero]
          refine wpAnyH_takeL (i := 32) (v := ?_) rfl (by kernel_rfl) (by kernel_rfl) (by kernel_rfl) (fun _ _ _ h => h) (Or.inl ⟨by kernel_rfl, ?_⟩) hS ?_
          rotate_left
          · intro V hV
            go_simp
            (try with_reducible rfl)
          simp only [put_list, List.set_cons_succ, List.set_cons_zero]
          refine wpAnyH_takeL (i := 33) (v := ?_) rfl (by kernel_rfl) (by kernel_rfl) (by kernel_rfl) (fun _ _ _ h => h) (Or.inl ⟨by kernel_rfl, ?_⟩) hS ?_
          rotate_left
          · intro V hV
            have k0 := (hV.cell (p := ⟨W0.heap.size, 0, none⟩) hls).trans cs0
            have k1 := (hV.cell (p := ⟨W0.heap.size, 1, none⟩) hls).trans cs1
            have k2 := (hV.cell (p := ⟨W0.heap.size, 2, none⟩) hls).trans cs2
            have k3 := (hV.cell (p := ⟨W0.heap.size, 3, none⟩) hls).trans cs3
            go_simp
            (try with_reducible rfl)
          simp only [put_list, List.set_cons_succ, List.set_cons_zero]
          refine wpAnyH_takeL (i := 34) (v := ?_) rfl (by kernel_rfl) (by kernel_rfl) (by kernel_rfl) (fun _ _ _ h => h) (Or.inl ⟨by kernel_rfl, ?_⟩) hS ?_
          rotate_left
          · intro V hV
            have k0 := (hV.cell (p := ⟨w.heap.size, 0, none⟩) hlx).trans cx0
            have k1 := (hV.cell (p := ⟨w.heap.size, 1, none⟩) hlx).trans cx1
            have k2 := (hV.cell (p := ⟨w.heap.size, 2, none⟩) hlx).trans cx2
            have k3 := (hV.cell (p := ⟨w.heap.size, 3, none⟩) hlx).trans cx3
            go_simp
            (try with_reducible rfl)
          simp only [put_list, List.set_cons_succ, List.set_cons_zero]
          refine wpAnyH_takeL (i := 35) (v := ?_) rfl (by kernel_rfl) (by kernel_rfl) (by kernel_rfl) (fun _ _ _ h => h) (Or.inl ⟨by kernel_rfl, ?_⟩) hS ?_
          rotate_left
          · intro V hV
            have k0 := (hV.cell (p := ⟨w.heap.size + 1, 0, none⟩) hly).trans cy0
            have k1 := (hV.cell (p := ⟨w.heap.size + 1, 1, none⟩) hly).trans cy1
            have k2 := (hV.cell (p := ⟨w.heap.size + 1, 2, none⟩) hly).trans cy2
            have k3 := (hV.cell (p := ⟨w.heap.size + 1, 3, none⟩) hly).trans cy3
            go_simp
            (try with_reducible rfl)
          simp only [put_list, List.set_cons_succ, List.set_cons_zero]
          refine wpAnyH_ready (rs := [36]) (by kernel_rfl) (by simp) (AllReadyH.cons rfl (fun K hK => ?_) AllReadyH.nil)
          go_simp
          refine (Ck9.out _).mono ?_
          rintro e U13 ⟨rfl, hbc⟩
          refine hK.out _ _ (hS.trans (hbc.mono hS.size)) (fun hS => ?_)
          clear hK K hbc
          refine wpAnyH_ready (rs := [37]) (by kernel_rfl) (by simp) (AllReadyH.cons rfl (fun K hK => ?_) AllReadyH.nil)
          go_simp
          refine (Ck10.out _).mono ?_
          rintro e U14 ⟨rfl, hbc⟩
          refine hK.out _ _ (hS.trans (hbc.mono hS.size)) (fun hS => ?_)
          clear hK K hbc
          refine wpAnyH_takeL (i := 38) (v := ?_) rfl (by kernel_rfl) (by kernel_rfl) (by kernel_rfl) (fun _ _ _ h => h) (Or.inl ⟨by kernel_rfl, ?_⟩) hS ?_
          rotate_left
          · intro V hV
            go_simp
            (try with_reducible rfl)
          simp only [put_list, List.set_cons_succ, List.set_cons_zero]
          as_aux_lemma =>
            refine wpAnyH_takeL (i := 39) (v := ?_) rfl (by kernel_rfl) (by kernel_rfl) (by kernel_rfl) (fun _ _ _ h => h) (Or.inl ⟨by kernel_rfl, ?_⟩) hS ?_
            rotate_left
            · intro V hV
              go_simp
              (try with_reducible rfl)
            simp only [put_list, List.set_cons_succ, List.set_cons_zero]
            refine wpAnyH_takeL (i := 40) (v := ?_) rfl (by kernel_rfl) (by kernel_rfl) (by kernel_rfl) (fun _ _ _ h => h) (Or.inl ⟨by kernel_rfl, ?_⟩) hS ?_
            rotate_left
            · intro V hV
              go_simp
              (try with_reducible rfl)
            simp only [put_list, List.set_cons_succ, List.set_cons_zero]
            refine wpAnyH_takeL (i := 41) (v := ?_) rfl (by kernel_rfl) (by kernel_rfl) (by kernel_rfl) (fun _ _ _ h => h) (Or.inl ⟨by kernel_rfl, ?_⟩) hS ?_
            rotate_left
            · intro V hV
              have k0 := (hV.cell (p := ⟨w.heap.size, 0, none⟩) hlx).trans cx0
              have k1 := (hV.cell (p := ⟨w.heap.size, 1, none⟩) hlx).trans cx1
              have k2 := (hV.cell (p := ⟨w.heap.size, 2, none⟩) hlx).trans cx2
              have k3 := (hV.cell (p := ⟨w.heap.size, 3, none⟩) hlx).trans cx3
              go_simp
              (try with_reducible rfl)
            simp only [put_list, List.set_cons_succ, List.set_cons_zero]
            refine wpAnyH_takeL (i := 42) (v := ?_) rfl (by kernel_rfl) (by kernel_rfl) (by kernel_rfl) (fun _ _ _ h => h) (Or.inl ⟨by kernel_rfl, ?_⟩) hS ?_
            rotate_left
            · intro V hV
              have k0 := (hV.cell (p := ⟨w.heap.size + 1, 0, none⟩) hly).trans cy0
              have k1 := (hV.cell (p := ⟨w.heap.size + 1, 1, none⟩) hly).trans cy1
              have k2 := (hV.cell (p := ⟨w.heap.size + 1, 2, none⟩) hly).trans cy2
              have k3 := (hV.cell (p := ⟨w.heap.size + 1, 3, none⟩) hly).trans cy3
              go_simp
              (try with_reducible rfl)
            simp only [put_list, List.set_cons_succ, List.set_cons_zero]
            refine wpAnyH_ready (rs := [43]) (by kernel_rfl) (by simp) (AllReadyH.cons rfl (fun K hK => ?_) AllReadyH.nil)
            go_simp
            refine (Ck14.out _).mono ?_
            rintro e U15 ⟨rfl, hbc⟩
            refine hK.out _ _ (hS.trans (hbc.mono hS.size)) (fun hS => ?_)
            clear hK K hbc
            refine wpAnyH_takeL (i := 44) (v := ?_) rfl (by kernel_rfl) (by kernel_rfl) (by kernel_rfl) (fun _ _ _ h => h) (Or.inl ⟨by kernel_rfl, ?_⟩) hS ?_
            rotate_left
            · intro V hV
              go_simp
              (try with_reducible rfl)
            simp only [put_list, List.set_cons_succ, List.set_cons_zero]
            refine wpAnyH_takeL (i := 45) (v := ?_) rfl (by kernel_rfl) (by kernel_rfl) (by kernel_rfl) (fun _ _ _ h => h) (Or.inl ⟨by kernel_rfl, ?_⟩) hS ?_
            rotate_left
            · intro V hV
              go_simp
              (try with_reducible rfl)
            simp only [put_list, List.set_cons_succ, List.set_cons_zero]
            refine wpAnyH_takeL (i := 46) (v := ?_) rfl (by kernel_rfl) (by kernel_rfl) (by kernel_rfl) (fun _ _ _ h => h) (Or.inl ⟨by kernel_rfl, ?_⟩) hS ?_
            rotate_left
            · intro V hV
              go_simp
              (try with_reducible rfl)
            simp only [put_list, List.set_cons_succ, List.set_cons_zero]
            as_aux_lemma =>
              refine wpAnyH_takeL (i := 47) (v := ?_) rfl (by kernel_rfl) (by kernel_rfl) (by kernel_rfl) (fun _ _ _ h => h) (Or.inl ⟨by kernel_rfl, ?_⟩) hS ?_
              rotate_left
              · intro V hV
                have k0 := (hV.cell (p := ⟨V2.heap.size, 0, none⟩) hld).trans cd0
                have k1 := (hV.cell (p := ⟨V2.heap.size, 1, none⟩) hld).trans cd1
                have k2 := (hV.cell (p := ⟨V2.heap.size, 2, none⟩) hld).trans cd2
                have k3 := (hV.cell (p := ⟨V2.heap.size, 3, none⟩) hld).trans cd3
                go_simp
                (try with_reducible rfl)
              simp only [put_list, List.set_cons_succ, List.set_cons_zero]
              refine wpAnyH_takeL (i := 48) (v := ?_) rfl (by kernel_rfl) (by kernel_rfl) (by kernel_rfl) (fun _ _ _ h => h) (Or.inl ⟨by kernel_rfl, ?_⟩) hS ?_
              rotate_left
              · intro V hV
                have k0 := (hV.cell (p := ⟨w.heap.size, 0, none⟩) hlx).trans cx0
                have k1 := (hV.cell (p := ⟨w.heap.size, 1, none⟩) hlx).trans cx1
                have k2 := (hV.cell (p := ⟨w.heap.size, 2, none⟩) hlx).trans cx2
                have k3 := (hV.cell (p := ⟨w.heap.size, 3, none⟩) hlx).trans cx3
                go_simp
                (try with_reducible rfl)
              simp only [put_list, List.set_cons_succ, List.set_cons_zero]
              refine wpAnyH_takeL (i := 49) (v := ?_) rfl (by kernel_rfl) (by kernel_rfl) (by kernel_rfl) (fun _ _ _ h => h) (Or.inl ⟨by kernel_rfl, ?_⟩) hS ?_
              rotate_left
              · intro V hV
                have k0 := (hV.cell (p := ⟨w.heap.size + 1, 0, none⟩) hly).trans cy0
                have k1 := (hV.cell (p := ⟨w.heap.size + 1, 1, none⟩) hly).trans cy1
                have k2 := (hV.cell (p := ⟨w.heap.size + 1, 2, none⟩) hly).trans cy2
                have k3 := (hV.cell (p := ⟨w.heap.size + 1, 3, none⟩) hly).trans cy3
                go_simp
                (try with_reducible rfl)
              simp only [put_list, List.set_cons_succ, List.set_cons_zero]
              refine wpAnyH_ready (rs := [50]) (by kernel_rfl) (by simp) (AllReadyH.cons rfl (fun K hK => ?_) AllReadyH.nil)
              go_simp
              refine (Ck12.out _).mono ?_
              rintro e U16 ⟨rfl, hbc⟩
              refine hK.out _ _ (hS.trans (hbc.mono hS.size)) (fun hS => ?_)
              clear hK K hbc
              refine wpAnyH_ready (rs := [51]) (by kernel_rfl) (by simp) (AllReadyH.cons rfl (fun K hK => ?_) AllReadyH.nil)
              go_simp
              refine (Ck13.out _).mono ?_
              rintro e U17 ⟨rfl, hbc⟩
              refine hK.out _ _ (hS.trans (hbc.mono hS.size)) (fun hS => ?_)
              clear hK K hbc
              refine wpAnyH_takeL (i := 52) (v := ?_) rfl (by kernel_rfl) (by kernel_rfl) (by kernel_rfl) (fun _ _ _ h => h) (Or.inl ⟨by kernel_rfl, ?_⟩) hS ?_
              rotate_left
              · intro V hV
                go_simp
                (try with_reducible rfl)
              simp only [put_list, List.set_cons_succ, List.set_cons_zero]
              refine wpAnyH_takeL (i := 53) (v := ?_) rfl (by kernel_rfl) (by kernel_rfl) (by kernel_rfl) (fun _ _ _ h => h) (Or.inl ⟨by kernel_rfl, ?_⟩) hS ?_
              rotate_left
              · intro V hV
                go_simp
                (try with_reducible rfl)
              simp only [put_list, List.set_cons_succ, List.set_cons_zero]
              refine wpAnyH_takeL (i := 54) (v := ?_) rfl (by kernel_rfl) (by kernel_rfl) (by kernel_rfl) (fun _ _ _ h => h) (Or.inl ⟨by kernel_rfl, ?_⟩) hS ?_
              rotate_left
              · intro V hV
                go_simp
                (try with_reducible rfl)
              simp only [put_list, List.set_cons_succ, List.set_cons_zero]
              as_aux_lemma =>
                refine wpAnyH_takeL (i := 55) (v := ?_) rfl (by kernel_rfl) (by kernel_rfl) (by kernel_rfl) (fun _ _ _ h => h) (Or.inl ⟨by kernel_rfl, ?_⟩) hS ?_
                rotate_left
                · intro V hV
                  have k0 := (hV.cell (p := ⟨w.heap.size, 0, none⟩) hlx).trans cx0
                  have k1 := (hV.cell (p := ⟨w.heap.size, 1, none⟩) hlx).trans cx1
                  have k2 := (hV.cell (p := ⟨w.heap.size, 2, none⟩) hlx).trans cx2
                  have k3 := (hV.cell (p := ⟨w.heap.size, 3, none⟩) hlx).trans cx3
                  go_simp
                  (try with_reducible rfl)
                simp only [put_list, List.set_cons_succ, List.set_cons_zero]
                refine wpAnyH_takeL (i := 56) (v := ?_) rfl (by kernel_rfl) (by kernel_rfl) (by kernel_rfl) (fun _ _ _ h => h) (Or.inl ⟨by kernel_rfl, ?_⟩) hS ?_
                rotate_left
                · intro V hV
                  have k0 := (hV.cell (p := ⟨w.heap.size + 1, 0, none⟩) hly).trans cy0
                  have k1 := (hV.cell (p := ⟨w.heap.size + 1, 1, none⟩) hly).trans cy1
                  have k2 := (hV.cell (p := ⟨w.heap.size + 1, 2, none⟩) hly).trans cy2
                  have k3 := (hV.cell (p := ⟨w.heap.size + 1, 3, none⟩) hly).trans cy3
                  go_simp
                  (try with_reducible rfl)
                simp only [put_list, List.set_cons_succ, List.set_cons_zero]
                refine wpAnyH_ready (rs := [57]) (by kernel_rfl) (by simp) (AllReadyH.cons rfl (fun K hK => ?_) AllReadyH.nil)
                go_simp
                refine (Ck15.out _).mono ?_
                rintro e U18 ⟨rfl, hbc⟩
                refine hK.out _ _ (hS.trans (hbc.mono hS.size)) (fun hS => ?_)
                clear hK K hbc
                refine wpAnyH_takeL (i := 58) (v := ?_) rfl (by kernel_rfl) (by kernel_rfl) (by kernel_rfl) (fun _ _ _ h => h) (Or.inl ⟨by kernel_rfl, ?_⟩) hS ?_
                rotate_left
                · intro V hV
                  go_simp
                  (try with_reducible rfl)
                simp only [put_list, List.set_cons_succ, List.set_cons_zero]
                refine wpAnyH_takeL (i := 59) (v := ?_) rfl (by kernel_rfl) (by kernel_rfl) (by kernel_rfl) (fun _ _ _ h => h) (Or.inl ⟨by kernel_rfl, ?_⟩) hS ?_
                rotate_left
                · intro V hV
                  go_simp
                  (try with_reducible rfl)
                simp only [put_list, List.set_cons_succ, List.set_cons_zero]
                refine wpAnyH_takeL (i := 60) (v := ?_) rfl (by kernel_rfl) (by kernel_rfl) (by kernel_rfl) (fun _ _ _ h => h) (Or.inl ⟨by kernel_rfl, ?_⟩) hS ?_
                rotate_left
                · intro V hV
                  go_simp
                  (try with_reducible rfl)
                simp only [put_list, List.set_cons_succ, List.set_cons_zero]
                refine wpAnyH_takeL (i := 61) (v := ?_) rfl (by kernel_rfl) (by kernel_rfl) (by kernel_rfl) (fun _ _ _ h => h) (Or.inl ⟨by kernel_rfl, ?_⟩) hS ?_
                rotate_left
                · intro V hV
                  go_simp
                  (try with_reducible rfl)
                simp only [put_list, List.set_cons_succ, List.set_cons_zero]
                refine wpAnyH_takeL (i := 62) (v := ?_) rfl (by kernel_rfl) (by kernel_rfl) (by kernel_rfl) (fun _ _ _ h => h) (Or.inl ⟨by kernel_rfl, ?_⟩) hS ?_
                rotate_left
                · intro V hV
                  have k0 := (hV.cell (p := ⟨w.heap.size, 0, none⟩) hlx).trans cx0
                  have k1 := (hV.cell (p := ⟨w.heap.size, 1, none⟩) hlx).trans cx1
                  have k2 := (hV.cell (p := ⟨w.heap.size, 2, none⟩) hlx).trans cx2
                  have k3 := (hV.cell (p := ⟨w.heap.size, 3, none⟩) hlx).trans cx3
                  go_simp
                  (try with_reducible rfl)
                simp only [put_list, List.set_cons_succ, List.set_cons_zero]
                as_aux_lemma =>
                  refine wpAnyH_takeL (i := 63) (v := ?_) rfl (by kernel_rfl) (by kernel_rfl) (by kernel_rfl) (fun _ _ _ h => h) (Or.inl ⟨by kernel_rfl, ?_⟩) hS ?_
                  rotate_left
                  · intro V hV
                    have k0 := (hV.cell (p := ⟨w.heap.size + 1, 0, none⟩) hly).trans cy0
                    have k1 := (hV.cell (p := ⟨w.heap.size + 1, 1, none⟩) hly).trans cy1
                    have k2 := (hV.cell (p := ⟨w.heap.size + 1, 2, none⟩) hly).trans cy2
                    have k3 := (hV.cell (p := ⟨w.heap.size + 1, 3, none⟩) hly).trans cy3
                    go_simp
                    (try with_reducible rfl)
                  simp only [put_list, List.set_cons_succ, List.set_cons_zero]
                  refine wpAnyH_takeL (i := 65) (v := ?_) rfl (by kernel_rfl) (by kernel_rfl) (by kernel_rfl) (fun _ _ _ h => h) (Or.inl ⟨by kernel_rfl, ?_⟩) hS ?_
                  rotate_left
                  · intro V hV
                    have k0 := (hV.cell (p := ⟨w.heap.size, 0, none⟩) hlx).trans cx0
                    have k1 := (hV.cell (p := ⟨w.heap.size, 1, none⟩) hlx).trans cx1
                    have k2 := (hV.cell (p := ⟨w.heap.size, 2, none⟩) hlx).trans cx2
                    have k3 := (hV.cell (p := ⟨w.heap.size, 3, none⟩) hlx).trans cx3
                    go_simp
                    (try with_reducible rfl)
                  simp only [put_list, List.set_cons_succ, List.set_cons_zero]
                  refine wpAnyH_takeL (i := 66) (v := ?_) rfl (by kernel_rfl) (by kernel_rfl) (by kernel_rfl) (fun _ _ _ h => h) (Or.inl ⟨by kernel_rfl, ?_⟩) hS ?_
                  rotate_left
                  · intro V hV
                    have k0 := (hV.cell (p := ⟨w.heap.size + 1, 0, none⟩) hly).trans cy0
                    have k1 := (hV.cell (p := ⟨w.heap.size + 1, 1, none⟩) hly).trans cy1
                    have k2 := (hV.cell (p := ⟨w.heap.size + 1, 2, none⟩) hly).trans cy2
                    have k3 := (hV.cell (p := ⟨w.heap.size + 1, 3, none⟩) hly).trans cy3
                    go_simp
                    (try with_reducible rfl)
                  simp only [put_list, List.set_cons_succ, List.set_cons_zero]
                  refine wpAnyH_ready (rs := [64]) (by kernel_rfl) (by simp) (AllReadyH.cons rfl (fun K hK => ?_) AllReadyH.nil)
                  go_simp
                  refine (Ck16.out _).mono ?_
                  rintro e U19 ⟨rfl, hbc⟩
                  refine hK.out _ _ (hS.trans (hbc.mono hS.size)) (fun hS => ?_)
                  clear hK K hbc
                  refine wpAnyH_ready (rs := [67]) (by kernel_rfl) (by simp) (AllReadyH.cons rfl (fun K hK => ?_) AllReadyH.nil)
                  go_simp
                  refine (Ck17.out _).mono ?_
                  rintro e U20 ⟨rfl, hbc⟩
                  refine hK.out _ _ (hS.trans (hbc.mono hS.size)) (fun hS => ?_)
                  clear hK K hbc
                  refine wpAnyH_takeL (i := 68) (v := ?_) rfl (by kernel_rfl) (by kernel_rfl) (by kernel_rfl) (fun _ _ _ h => h) (Or.inl ⟨by kernel_rfl, ?_⟩) hS ?_
                  rotate_left
                  · intro V hV
                    go_simp
                    (try with_reducible rfl)
                  simp only [put_list, List.set_cons_succ, List.set_cons_zero]
                  refine wpAnyH_takeL (i := 69) (v := ?_) rfl (by kernel_rfl) (by kernel_rfl) (by kernel_rfl) (fun _ _ _ h => h) (Or.inl ⟨by kernel_rfl, ?_⟩) hS ?_
                  rotate_left
                  · intro V hV
                    go_simp
                    (try with_reducible rfl)
                  simp only [put_list, List.set_cons_succ, List.set_cons_zero]
                  refine wpAnyH_takeL (i := 70) (v := ?_) rfl (by kernel_rfl) (by kernel_rfl) (by kernel_rfl) (fun _ _ _ h => h) (Or.inl ⟨by kernel_rfl, ?_⟩) hS ?_
                  rotate_left
                  · intro V hV
                    go_simp
                    (try with_reducible rfl)
                  simp only [put_list, List.set_cons_succ, List.set_cons_zero]
                  as_aux_lemma =>
                    refine wpAnyH_takeL (i := 71) (v := ?_) rfl (by kernel_rfl) (by kernel_rfl) (by kernel_rfl) (fun _ _ _ h => h) (Or.inl ⟨by kernel_rfl, ?_⟩) hS ?_
                    rotate_left
                    · intro V hV
                      go_simp
                      (try with_reducible rfl)
                    simp only [put_list, List.set_cons_succ, List.set_cons_zero]
                    refine wpAnyH_takeL (i := 72) (v := ?_) rfl (by kernel_rfl) (by kernel_rfl) (by kernel_rfl) (fun _ _ _ h => h) (Or.inl ⟨by kernel_rfl, ?_⟩) hS ?_
                    rotate_left
                    · intro V hV
                      go_simp
                      (try with_reducible rfl)
                    simp only [put_list, List.set_cons_succ, List.set_cons_zero]
                    refine wpAnyH_takeL (i := 73) (v := ?_) rfl (by kernel_rfl) (by kernel_rfl) (by kernel_rfl) (fun _ _ _ h => h) (Or.inl ⟨by kernel_rfl, ?_⟩) hS ?_
                    rotate_left
                    · intro V hV
                      go_simp
                      (try with_reducible rfl)
                    simp only [put_list, List.set_cons_succ, List.set_cons_zero]
                    refine wpAnyH_takeL (i := 74) (v := ?_) rfl (by kernel_rfl) (by kernel_rfl) (by kernel_rfl) (fun _ _ _ h => h) (Or.inl ⟨by kernel_rfl, ?_⟩) hS ?_
                    rotate_left
                    · intro V hV
                      go_simp
                      (try with_reducible rfl)
                    simp only [put_list, List.set_cons_succ, List.set_cons_zero]
                    refine wpAnyH_takeL (i := 75) (v := ?_) rfl (by kernel_rfl) (by kernel_rfl) (by kernel_rfl) (fun _ _ _ h => h) (Or.inl ⟨by kernel_rfl, ?_⟩) hS ?_
                    rotate_left
                    · intro V hV
                      go_simp
                      (try with_reducible rfl)
                    simp only [put_list, List.set_cons_succ, List.set_cons_zero]
                    refine wpAnyH_takeL (i := 76) (v := ?_) rfl (by kernel_rfl) (by kernel_rfl) (by kernel_rfl) (fun _ _ _ h => h) (Or.inl ⟨by kernel_rfl, ?_⟩) hS ?_
                    rotate_left
                    · intro V hV
                      go_simp
                      (try with_reducible rfl)
                    simp only [put_list, List.set_cons_succ, List.set_cons_zero]
                    refine wpAnyH_takeL (i := 77) (v := ?_) rfl (by kernel_rfl) (by kernel_rfl) (by kernel_rfl) (fun _ _ _ h => h) (Or.inl ⟨by kernel_rfl, ?_⟩) hS ?_
                    rotate_left
                    · intro V hV
                      have k0 := (hV.cell (p := ⟨w.heap.size, 0, none⟩) hlx).trans cx0
                      have k1 := (hV.cell (p := ⟨w.heap.size, 1, none⟩) hlx).trans cx1
                      have k2 := (hV.cell (p := ⟨w.heap.size, 2, none⟩) hlx).trans cx2
                      have k3 := (hV.cell (p := ⟨w.heap.size, 3, none⟩) hlx).trans cx3
                      go_simp
                      (try with_reducible rfl)
                    simp only [put_list, List.set_cons_succ, List.set_cons_zero]
                    refine wpAnyH_takeL (i := 78) (v := ?_) rfl (by kernel_rfl) (by kernel_rfl) (by kernel_rfl) (fun _ _ _ h => h) (Or.inl ⟨by kernel_rfl, ?_⟩) hS ?_
                    rotate_left
                    · intro V hV
                      go_simp
                      (try with_reducible rfl)
                    simp only [put_list, List.set_cons_succ, List.set_cons_zero]
                    as_aux_lemma =>
                      refine wpAnyH_ready (rs := [79]) (by kernel_rfl) (by simp) (AllReadyH.cons rfl (fun K hK => ?_) AllReadyH.nil)
                      go_simp
                      refine (Ck4.out _).mono ?_
                      rintro e U21 ⟨rfl, hbc⟩
                      refine hK.out _ _ (hS.trans (hbc.mono hS.size)) (fun hS => ?_)
                      clear hK K hbc
                      refine wpAnyH_takeL (i := 80) (v := ?_) rfl (by kernel_rfl) (by kernel_rfl) (by kernel_rfl) (fun _ _ _ h => h) (Or.inl ⟨by kernel_rfl, ?_⟩) hS ?_
                      rotate_left
                      · intro V hV
                        go_simp
                        (try with_reducible rfl)
                      simp only [put_list, List.set_cons_succ, List.set_cons_zero]
                      refine wpAnyH_takeL (i := 81) (v := ?_) rfl (by kernel_rfl) (by kernel_rfl) (by kernel_rfl) (fun _ _ _ h => h) (Or.inl ⟨by kernel_rfl, ?_⟩) hS ?_
                      rotate_left
                      · intro V hV
                        go_simp
                        (try with_reducible rfl)
                      simp only [put_list, List.set_cons_succ, List.set_cons_zero]
                      refine wpAnyH_takeL (i := 82) (v := ?_) rfl (by kernel_rfl) (by kernel_rfl) (by kernel_rfl) (fun _ _ _ h => h) (Or.inl ⟨by kernel_rfl, ?_⟩) hS ?_
                      rotate_left
                      · intro V hV
                        go_simp
                        (try with_reducible rfl)
                      simp only [put_list, List.set_cons_succ, List.set_cons_zero]
                      refine wpAnyH_takeL (i := 83) (v := ?_) rfl (by kernel_rfl) (by kernel_rfl) (by kernel_rfl) (fun _ _ _ h => h) (Or.inl ⟨by kernel_rfl, ?_⟩) hS ?_
                      rotate_left
                      · intro V hV
                        go_simp
                        (try with_reducible rfl)
                      simp only [put_list, List.set_cons_succ, List.set_cons_zero]
                      refine wpAnyH_ready (rs := [84]) (by kernel_rfl) (by simp) (AllReadyH.cons rfl (fun K hK => ?_) AllReadyH.nil)
                      go_simp
                      refine (CAW.out _).mono ?_
                      rintro e U22 ⟨rfl, hbc⟩
                      refine hK.out _ _ (hS.trans (hbc.mono hS.size)) (fun hS => ?_)
                      clear hK K hbc
                      refine wpAnyH_takeL (i := 85) (v := ?_) rfl (by kernel_rfl) (by kernel_rfl) (by kernel_rfl) (fun _ _ _ h => h) (Or.inl ⟨by kernel_rfl, ?_⟩) hS ?_
                      rotate_left
                      · intro V hV
                        go_simp
                        (try with_reducible rfl)
                      simp only [put_list, List.set_cons_succ, List.set_cons_zero]
                      refine wpAnyH_ready (rs := [86]) (by kernel_rfl) (by simp) (AllReadyH.cons rfl (fun K hK => ?_) AllReadyH.nil)
                      go_simp
                      refine hK.out _ _ hS (fun hS => ?_)
                      clear hK K
                      refine wpAnyH_done (by kernel_rfl) ?_ _
                      go_wp2_with fail
                      go_ret
                      exact ⟨rfl, HBW.out.trans (hS.mono HBW.out.size)⟩

end Go.Proofs.Ytpnijncoldihfaa
