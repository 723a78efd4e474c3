/-
  The next product modulo a number.
-/
import Derived.Test.YtpnijncoldihfaaAddMod
import Derived.Test.YtpnijncoldihfaaOnes
import Derived.Test.YtpnijncoldihfaaKeep
namespace Go.Proofs.Ytpnijncoldihfaa
open Go.RowKit Go.Shelf

/-- Words are equal just if their numbers are. -/
theorem eq_wv (X Y : Nat) (W : World) : (Op.equalIn 10000 24 (wv X) (wv Y)).run Try.prog W = .ok (decide (X % M256 = Y % M256)) W := by
  obtain ⟨x0, x1, x2, x3, hx0, hx1, hx2, hx3, eX, hX⟩ := wv_limbs X
  obtain ⟨y0, y1, y2, y3, hy0, hy1, hy2, hy3, eY, hY⟩ := wv_limbs Y
  rw [hX, hY, eq_words]
  congr 1
  rw [Bool.eq_iff_iff]
  simp only [Bool.and_eq_true, beq_iff_eq, decide_eq_true_eq]
  constructor
  · rintro ⟨a, b, c, d⟩
    rw [eX, eY, Int.ofNat.inj a, Int.ofNat.inj b, Int.ofNat.inj c, Int.ofNat.inj d]
  · intro h
    rw [eX, eY] at h
    unfold num at h
    omega

theorem heap_new4 (w : World) (a b c d e : Obj) : (((((w.alloc a).alloc b).alloc c).alloc d).alloc e).heap[w.heap.size + 1 + 1 + 1 + 1]? = some e := by
  have := heap_alloc_new ((((w.alloc a).alloc b).alloc c).alloc d) e
  rwa [World.size_alloc, World.size_alloc, World.size_alloc, World.size_alloc] at this

set_option maxHeartbeats 2000000 in
set_option maxRecDepth 100000 in
theorem next_top (A U N Y : Nat) (h : Y % M256 = M256 - 1) (w : World) : Calls Try.prog 83 #[wv A, wv U, wv N, wv Y] w fun e w' => e = .returned (wv 0) ∧ Below w.heap.size w w' := by
  have heq := fun W => eq_wv Y (M256 - 1) W
  rw [show (M256 - 1) % M256 = M256 - 1 by decide] at heq
  simp only [h, decide_true] at heq
  have c1 := fun W => most_any W
  have c2 := fun W => addMod_any A U N W
  obtain ⟨m0, m1, m2, m3, hm⟩ := wv_form A
  obtain ⟨u0, u1, u2, u3, hu⟩ := wv_form U
  obtain ⟨n0, n1, n2, n3, hn⟩ := wv_form N
  obtain ⟨y0, y1, y2, y3, hy⟩ := wv_form Y
  have ho : wv (M256 - 1) = .agg #[.int .u64 18446744073709551615, .int .u64 18446744073709551615, .int .u64 18446744073709551615, .int .u64 18446744073709551615] := by kernel_rfl
  have hz : wv 0 = .agg #[.int .u64 0, .int .u64 0, .int .u64 0, .int .u64 0] := rfl
  obtain ⟨s0, s1, s2, s3, hs⟩ := wv_form (restN (A % M256 + U % M256) (N % M256))
  simp only [hm, hu, hn, hy, ho, hz, hs] at c1 c2 heq ⊢
  have C1 := hideP c1
  have C2 := hideP c2
  clear c1 c2 hm hu hn hy ho hz hs h
  go_enter Try.func83, Try.ntmps83
  go_wp2_with fail
  refine at_world (fun W0 hW0 => ?_)
  have HBm : Hid (W0.heap[w.heap.size]? = some (.cells #[.int .u64 m0, .int .u64 m1, .int .u64 m2, .int .u64 m3] 24 (0, 0))) := by
    show _ = _
    rw [hW0, heap_old _ _ (by simp <;> omega), heap_old _ _ (by simp <;> omega), heap_old _ _ (by simp <;> omega), heap_old _ _ (by simp <;> omega)]
    exact heap_new _ _
  have HBu : Hid (W0.heap[w.heap.size + 1]? = some (.cells #[.int .u64 u0, .int .u64 u1, .int .u64 u2, .int .u64 u3] 24 (0, 0))) := by
    show _ = _
    rw [hW0, heap_old _ _ (by simp <;> omega), heap_old _ _ (by simp <;> omega), heap_old _ _ (by simp <;> omega)]
    exact heap_new1 _ _ _
  have HBn : Hid (W0.heap[w.heap.size + 1 + 1]? = some (.cells #[.int .u64 n0, .int .u64 n1, .int .u64 n2, .int .u64 n3] 24 (0, 0))) := by
    show _ = _
    rw [hW0, heap_old _ _ (by simp <;> omega), heap_old _ _ (by simp <;> omega)]
    exact heap_new2 _ _ _ _
  have HBy : Hid (W0.heap[w.heap.size + 1 + 1 + 1]? = some (.cells #[.int .u64 y0, .int .u64 y1, .int .u64 y2, .int .u64 y3] 24 (0, 0))) := by
    show _ = _
    rw [hW0, heap_old _ _ (by simp <;> omega)]
    exact heap_new3 _ _ _ _ _
  have HBr : Hid (W0.heap[w.heap.size + 1 + 1 + 1 + 1]? = some (.cells #[.int .u64 0, .int .u64 0, .int .u64 0, .int .u64 0] 24 (0, 0))) := by
    show _ = _
    rw [hW0]
    exact heap_new4 _ _ _ _ _ _
  have HBW : Hid (Below w.heap.size w W0) := by
    show Below _ _ _
    rw [hW0]
    exact ((((((Below.refl _ w).alloc (Nat.le_refl _) _).alloc (by simp <;> omega) _).alloc (by simp <;> omega) _).alloc (by simp <;> omega) _).alloc (by simp <;> omega) _)
  clear hW0
  obtain ⟨cy0, cy1, cy2, cy3⟩ := cells4 HBy.out
  have hly := lt_of_block HBy.out
  refine wp_region_heldS (S := fun V => Below W0.heap.size W0 V) (by kernel_rfl) (Below.refl _ _).drew (fun hS => ?_)
  refine wpAnyH_takeL (i := 0) (v := ?_) rfl (by kernel_rfl) (by kernel_rfl) (by kernel_rfl) (fun _ _ _ h => h) (Or.inl ⟨by kernel_rfl, ?_⟩) hS ?_
  rotate_left
  · intro V hV
    have k0 := (hV.cell (p := ⟨w.heap.size + 1 + 1 + 1, 0, none⟩) hly).trans cy0
    have k1 := (hV.cell (p := ⟨w.heap.size + 1 + 1 + 1, 1, none⟩) hly).trans cy1
    have k2 := (hV.cell (p := ⟨w.heap.size + 1 + 1 + 1, 2, none⟩) hly).trans cy2
    have k3 := (hV.cell (p := ⟨w.heap.size + 1 + 1 + 1, 3, none⟩) hly).trans cy3
    go_simp
    (try with_reducible rfl)
  simp only [put_list, List.set_cons_succ, List.set_cons_zero]
  refine wpAnyH_ready (rs := [1]) (by kernel_rfl) (by simp) (AllReadyH.cons rfl (fun K hK => ?_) AllReadyH.nil)
  go_simp
  refine (C1.out _).mono ?_
  rintro e U1 ⟨rfl, hbc⟩
  refine hK.out _ _ (hS.trans (hbc.mono hS.size)) (fun hS => ?_)
  clear hK K hbc
  refine wpAnyH_takeL (i := 2) (v := ?_) rfl (by kernel_rfl) (by kernel_rfl) (by kernel_rfl) (fun _ _ _ h => h) (Or.inl ⟨by kernel_rfl, ?_⟩) hS ?_
  rotate_left
  · intro V hV
    go_simp
    (try with_reducible rfl)
  simp only [put_list, List.set_cons_succ, List.set_cons_zero]
  refine wpAnyH_done (by kernel_rfl) ?_ _
  replace HBm : Hid (U1.heap[w.heap.size]? = some (.cells #[.int .u64 m0, .int .u64 m1, .int .u64 m2, .int .u64 m3] 24 (0, 0))) := (hS.block _ (lt_of_block HBm.out)).trans HBm.out
  replace HBu : Hid (U1.heap[w.heap.size + 1]? = some (.cells #[.int .u64 u0, .int .u64 u1, .int .u64 u2, .int .u64 u3] 24 (0, 0))) := (hS.block _ (lt_of_block HBu.out)).trans HBu.out
  replace HBn : Hid (U1.heap[w.heap.size + 1 + 1]? = some (.cells #[.int .u64 n0, .int .u64 n1, .int .u64 n2, .int .u64 n3] 24 (0, 0))) := (hS.block _ (lt_of_block HBn.out)).trans HBn.out
  replace HBy : Hid (U1.heap[w.heap.size + 1 + 1 + 1]? = some (.cells #[.int .u64 y0, .int .u64 y1, .int .u64 y2, .int .u64 y3] 24 (0, 0))) := (hS.block _ (lt_of_block HBy.out)).trans HBy.out
  replace HBr : Hid (U1.heap[w.heap.size + 1 + 1 + 1 + 1]? = some (.cells #[.int .u64 0, .int .u64 0, .int .u64 0, .int .u64 0] 24 (0, 0))) := (hS.block _ (lt_of_block HBr.out)).trans HBr.out
  replace HBW : Hid (Below w.heap.size w U1) := HBW.out.trans (hS.mono HBW.out.size)
  clear hS hly cy0 cy1 cy2 cy3
  obtain ⟨q0, q1, q2, q3⟩ := cells4 HBr.out
  have fr : ∀ o, U1.frozen? ⟨w.heap.size + 1 + 1 + 1 + 1, o, none⟩ = false := fun o => blk_free HBr.out
  go_wp2
  refine bodyPost_ret (v := .agg #[.int .u64 0, .int .u64 0, .int .u64 0, .int .u64 0]) (by simp [results, Try.results83, go_sem, q0, q1, q2, q3, World.cell?_setCell_same]) rfl ⟨rfl, ?_⟩
  repeat first | exact HBW.out | apply Below.drew | (refine Below.setCell ?_ (by simp <;> omega) _)

set_option maxHeartbeats 2000000 in
set_option maxRecDepth 100000 in
theorem next_else (A U N Y : Nat) (h : Y % M256 ≠ M256 - 1) (w : World) : Calls Try.prog 83 #[wv A, wv U, wv N, wv Y] w fun e w' => e = .returned (wv (restN (A % M256 + U % M256) (N % M256))) ∧ Below w.heap.size w w' := by
  have heq := fun W => eq_wv Y (M256 - 1) W
  rw [show (M256 - 1) % M256 = M256 - 1 by decide] at heq
  simp only [decide_eq_false h] at heq
  have c1 := fun W => most_any W
  have c2 := fun W => addMod_any A U N W
  obtain ⟨m0, m1, m2, m3, hm⟩ := wv_form A
  obtain ⟨u0, u1, u2, u3, hu⟩ := wv_form U
  obtain ⟨n0, n1, n2, n3, hn⟩ := wv_form N
  obtain ⟨y0, y1, y2, y3, hy⟩ := wv_form Y
  have ho : wv (M256 - 1) = .agg #[.int .u64 18446744073709551615, .int .u64 18446744073709551615, .int .u64 18446744073709551615, .int .u64 18446744073709551615] := by kernel_rfl
  have hz : wv 0 = .agg #[.int .u64 0, .int .u64 0, .int .u64 0, .int .u64 0] := rfl
  obtain ⟨s0, s1, s2, s3, hs⟩ := wv_form (restN (A % M256 + U % M256) (N % M256))
  simp only [hm, hu, hn, hy, ho, hs] at c1 c2 heq ⊢
  have C1 := hideP c1
  have C2 := hideP c2
  clear c1 c2 hm hu hn hy ho hz hs h
  go_enter Try.func83, Try.ntmps83
  go_wp2_with fail
  refine at_world (fun W0 hW0 => ?_)
  have HBm : Hid (W0.heap[w.heap.size]? = some (.cells #[.int .u64 m0, .int .u64 m1, .int .u64 m2, .int .u64 m3] 24 (0, 0))) := by
    show _ = _
    rw [hW0, heap_old _ _ (by simp <;> omega), heap_old _ _ (by simp <;> omega), heap_old _ _ (by simp <;> omega), heap_old _ _ (by simp <;> omega)]
    exact heap_new _ _
  have HBu : Hid (W0.heap[w.heap.size + 1]? = some (.cells #[.int .u64 u0, .int .u64 u1, .int .u64 u2, .int .u64 u3] 24 (0, 0))) := by
    show _ = _
    rw [hW0, heap_old _ _ (by simp <;> omega), heap_old _ _ (by simp <;> omega), heap_old _ _ (by simp <;> omega)]
    exact heap_new1 _ _ _
  have HBn : Hid (W0.heap[w.heap.size + 1 + 1]? = some (.cells #[.int .u64 n0, .int .u64 n1, .int .u64 n2, .int .u64 n3] 24 (0, 0))) := by
    show _ = _
    rw [hW0, heap_old _ _ (by simp <;> omega), heap_old _ _ (by simp <;> omega)]
    exact heap_new2 _ _ _ _
  have HBy : Hid (W0.heap[w.heap.size + 1 + 1 + 1]? = some (.cells #[.int .u64 y0, .int .u64 y1, .int .u64 y2, .int .u64 y3] 24 (0, 0))) := by
    show _ = _
    rw [hW0, heap_old _ _ (by simp <;> omega)]
    exact heap_new3 _ _ _ _ _
  have HBr : Hid (W0.heap[w.heap.size + 1 + 1 + 1 + 1]? = some (.cells #[.int .u64 0, .int .u64 0, .int .u64 0, .int .u64 0] 24 (0, 0))) := by
    show _ = _
    rw [hW0]
    exact heap_new4 _ _ _ _ _ _
  have HBW : Hid (Below w.heap.size w W0) := by
    show Below _ _ _
    rw [hW0]
    exact ((((((Below.refl _ w).alloc (Nat.le_refl _) _).alloc (by simp <;> omega) _).alloc (by simp <;> omega) _).alloc (by simp <;> omega) _).alloc (by simp <;> omega) _)
  clear hW0
  obtain ⟨cy0, cy1, cy2, cy3⟩ := cells4 HBy.out
  have hly := lt_of_block HBy.out
  refine wp_region_heldS (S := fun V => Below W0.heap.size W0 V) (by kernel_rfl) (Below.refl _ _).drew (fun hS => ?_)
  refine wpAnyH_takeL (i := 0) (v := ?_) rfl (by kernel_rfl) (by kernel_rfl) (by kernel_rfl) (fun _ _ _ h => h) (Or.inl ⟨by kernel_rfl, ?_⟩) hS ?_
  rotate_left
  · intro V hV
    have k0 := (hV.cell (p := ⟨w.heap.size + 1 + 1 + 1, 0, none⟩) hly).trans cy0
    have k1 := (hV.cell (p := ⟨w.heap.size + 1 + 1 + 1, 1, none⟩) hly).trans cy1
    have k2 := (hV.cell (p := ⟨w.heap.size + 1 + 1 + 1, 2, none⟩) hly).trans cy2
    have k3 := (hV.cell (p := ⟨w.heap.size + 1 + 1 + 1, 3, none⟩) hly).trans cy3
    go_simp
    (try with_reducible rfl)
  simp only [put_list, List.set_cons_succ, List.set_cons_zero]
  refine wpAnyH_ready (rs := [1]) (by kernel_rfl) (by simp) (AllReadyH.cons rfl (fun K hK => ?_) AllReadyH.nil)
  go_simp
  refine (C1.out _).mono ?_
  rintro e U1 ⟨rfl, hbc⟩
  refine hK.out _ _ (hS.trans (hbc.mono hS.size)) (fun hS => ?_)
  clear hK K hbc
  refine wpAnyH_takeL (i := 2) (v := ?_) rfl (by kernel_rfl) (by kernel_rfl) (by kernel_rfl) (fun _ _ _ h => h) (Or.inl ⟨by kernel_rfl, ?_⟩) hS ?_
  rotate_left
  · intro V hV
    go_simp
    (try with_reducible rfl)
  simp only [put_list, List.set_cons_succ, List.set_cons_zero]
  refine wpAnyH_done (by kernel_rfl) ?_ _
  replace HBm : Hid (U1.heap[w.heap.size]? = some (.cells #[.int .u64 m0, .int .u64 m1, .int .u64 m2, .int .u64 m3] 24 (0, 0))) := (hS.block _ (lt_of_block HBm.out)).trans HBm.out
  replace HBu : Hid (U1.heap[w.heap.size + 1]? = some (.cells #[.int .u64 u0, .int .u64 u1, .int .u64 u2, .int .u64 u3] 24 (0, 0))) := (hS.block _ (lt_of_block HBu.out)).trans HBu.out
  replace HBn : Hid (U1.heap[w.heap.size + 1 + 1]? = some (.cells #[.int .u64 n0, .int .u64 n1, .int .u64 n2, .int .u64 n3] 24 (0, 0))) := (hS.block _ (lt_of_block HBn.out)).trans HBn.out
  replace HBy : Hid (U1.heap[w.heap.size + 1 + 1 + 1]? = some (.cells #[.int .u64 y0, .int .u64 y1, .int .u64 y2, .int .u64 y3] 24 (0, 0))) := (hS.block _ (lt_of_block HBy.out)).trans HBy.out
  replace HBr : Hid (U1.heap[w.heap.size + 1 + 1 + 1 + 1]? = some (.cells #[.int .u64 0, .int .u64 0, .int .u64 0, .int .u64 0] 24 (0, 0))) := (hS.block _ (lt_of_block HBr.out)).trans HBr.out
  replace HBW : Hid (Below w.heap.size w U1) := HBW.out.trans (hS.mono HBW.out.size)
  clear hS hly cy0 cy1 cy2 cy3
  obtain ⟨cm0, cm1, cm2, cm3⟩ := cells4 HBm.out
  obtain ⟨cu0, cu1, cu2, cu3⟩ := cells4 HBu.out
  obtain ⟨cn0, cn1, cn2, cn3⟩ := cells4 HBn.out
  go_wp2_with fail
  refine (C2.out _).mono ?_
  rintro e V2 ⟨rfl, hb⟩
  obtain ⟨_, q0, q1, q2, q3, f0, f1, f2, f3⟩ := kept4 hb HBr.out
  replace HBW : Hid (Below w.heap.size w V2) := HBW.out.trans (hb.mono HBW.out.size)
  clear hb cm0 cm1 cm2 cm3 cu0 cu1 cu2 cu3 cn0 cn1 cn2 cn3
  go_wp2
  refine bodyPost_ret (v := .agg #[.int .u64 s0, .int .u64 s1, .int .u64 s2, .int .u64 s3]) (by simp [results, Try.results83, go_sem, q0, q1, q2, q3, World.cell?_setCell_same]) rfl ⟨rfl, ?_⟩
  repeat first | exact HBW.out | apply Below.drew | (refine Below.setCell ?_ (by simp <;> omega) _)

end Go.Proofs.Ytpnijncoldihfaa
