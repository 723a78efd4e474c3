/-
  The document's quotients and rests of words.
-/
import Derived.Test.YtpnijncoldihfaaTextsC23
import Derived.Test.YtpnijncoldihfaaTextsC28
import Derived.Test.YtpnijncoldihfaaTextsC22
import Derived.Test.YtpnijncoldihfaaTextsC34
namespace Go.Proofs.Ytpnijncoldihfaa
open Go.RowKit Go.Shelf

theorem word_lt8 (X : Nat) : X % M256 < 4294967296 ^ 16 := Nat.lt_of_lt_of_le (Nat.mod_lt _ M256_pos) (by decide)

set_option maxHeartbeats 4000000 in
set_option maxRecDepth 100000 in
theorem refDiv_any (X Y : Nat) (w : World) : Calls Try.prog 34 #[wv X, wv Y] w fun e w' => e = .returned (wv (X % M256 / (Y % M256))) ∧ Below w.heap.size w w' := by
  have c0 := fun W => zero_any Y W
  have c1 := fun W => fromWord_any X W
  have c2 := fun W => fromWord_any Y W
  have ct := fun W => toWord_any (X % M256 / (Y % M256)) W
  have hz0 : Y % M256 = 0 → wv (X % M256 / (Y % M256)) = .agg #[.int .u64 0, .int .u64 0, .int .u64 0, .int .u64 0] := fun h => by rw [h, Nat.div_zero]; rfl
  obtain ⟨x0, x1, x2, x3, hx⟩ := wv_form X
  obtain ⟨y0, y1, y2, y3, hy⟩ := wv_form Y
  obtain ⟨z0, z1, z2, z3, hz⟩ := wv_form (X % M256 / (Y % M256))
  rw [hz] at hz0 ct
  simp only [hx, hy, hz] at c0 c1 c2 ⊢
  clear hx hy hz
  have C0 := hideP c0
  have C1 := hideP c1
  have C2 := hideP c2
  clear c0 c1 c2
  go_enter Try.func34, Try.ntmps34
  go_wp2_with fail
  refine at_world_q (fun W0 hW0 => ?_)
  have HBx : W0.heap[w.heap.size]? = some (.cells #[.int .u64 x0, .int .u64 x1, .int .u64 x2, .int .u64 x3] 23 (0, 0)) := by
    rw [hW0]; simp only [World.alloc, Array.getElem?_push, Array.size_push]; simp [Nat.add_assoc]
  have HBy : W0.heap[w.heap.size + 1]? = some (.cells #[.int .u64 y0, .int .u64 y1, .int .u64 y2, .int .u64 y3] 23 (0, 0)) := by
    rw [hW0]; simp only [World.alloc, Array.getElem?_push, Array.size_push]; simp
  have HBr : W0.heap[w.heap.size + 1 + 1]? = some (.cells #[.int .u64 0, .int .u64 0, .int .u64 0, .int .u64 0] 23 (0, 0)) := by
    rw [hW0]; simp only [World.alloc, Array.getElem?_push, Array.size_push]; simp
  have HBW : Hid (Below w.heap.size w W0) := by
    show Below _ _ _
    rw [hW0]
    repeat first | exact Below.refl _ _ | (refine Below.alloc ?_ (by simp <;> omega) _)
  clear hW0
  refine (C0.out _).mono ?_
  rintro e W1 ⟨rfl, hb⟩
  replace HBx := (hb.block _ (lt_of_block HBx)).trans HBx
  replace HBy := (hb.block _ (lt_of_block HBy)).trans HBy
  replace HBr := (hb.block _ (lt_of_block HBr)).trans HBr
  replace HBW := hideP (HBW.out.trans (hb.mono HBW.out.size))
  clear hb C0
  by_cases hd0 : Y % M256 = 0
  · have hzz := hz0 hd0
    rw [decide_eq_true hd0]
    have HZZ := hideP hzz
    clear hz0 ct hzz hd0 HBx HBy C1 C2
    obtain ⟨j0, j1, j2, j3⟩ := cells4 HBr
    have jf : ∀ o, W1.frozen? ⟨w.heap.size + 1 + 1, o, none⟩ = false := fun o => blk_free HBr
    clear HBr
    go_wp2_with fail
    refine bodyPost_ret (v := .agg #[.int .u64 0, .int .u64 0, .int .u64 0, .int .u64 0]) (by simp [results, Try.results34, go_sem, j0, j1, j2, j3]) rfl ⟨by rw [HZZ.out], ?_⟩
    exact below_stored4 HBW.out (by omega)
  · rw [decide_eq_false hd0]

    have Ct := hideP ct
    have hpos : 0 < Y % M256 := Nat.pos_of_ne_zero hd0
    have c3 := fun W => split_any (X % M256) (Y % M256) (Nat.lt_trans (word_lt8 X) (by decide)) hpos (word_lt8 Y) W
    have C3 := hideP c3
    clear ct hz0 hd0 c3 hpos
    obtain ⟨cx0, cx1, cx2, cx3⟩ := cells4 HBx
    have hlx := lt_of_block HBx
    obtain ⟨cy0, cy1, cy2, cy3⟩ := cells4 HBy
    have hly := lt_of_block HBy
    go_wp2_with fail
    refine wp_region_heldS (S := fun V => Below W1.heap.size W1 V) (by kernel_rfl) (Below.refl _ _).drew (fun hS => ?_)
    refine wpAnyH_takeL (i := 0) (v := ?_) rfl (by kernel_rfl) (by kernel_rfl) (by kernel_rfl) (fun _ _ _ h => h) (Or.inl ⟨by kernel_rfl, ?_⟩) hS ?_
    rotate_left
    · intro V hV
      have k0 := (hV.cell (p := ⟨w.heap.size, 0, none⟩) hlx).trans cx0
      have k1 := (hV.cell (p := ⟨w.heap.size, 1, none⟩) hlx).trans cx1
      have k2 := (hV.cell (p := ⟨w.heap.size, 2, none⟩) hlx).trans cx2
      have k3 := (hV.cell (p := ⟨w.heap.size, 3, none⟩) hlx).trans cx3
      go_simp
      (try with_reducible rfl)
    simp only [put_list, List.set_cons_succ, List.set_cons_zero]
    refine wpAnyH_takeL (i := 2) (v := ?_) rfl (by kernel_rfl) (by kernel_rfl) (by kernel_rfl) (fun _ _ _ h => h) (Or.inl ⟨by kernel_rfl, ?_⟩) hS ?_
    rotate_left
    · intro V hV
      have k0 := (hV.cell (p := ⟨w.heap.size + 1, 0, none⟩) hly).trans cy0
      have k1 := (hV.cell (p := ⟨w.heap.size + 1, 1, none⟩) hly).trans cy1
      have k2 := (hV.cell (p := ⟨w.heap.size + 1, 2, none⟩) hly).trans cy2
      have k3 := (hV.cell (p := ⟨w.heap.size + 1, 3, none⟩) hly).trans cy3
      go_simp
      (try with_reducible rfl)
    simp only [put_list, List.set_cons_succ, List.set_cons_zero]
    clear cx0 cx1 cx2 cx3 cy0 cy1 cy2 cy3 hlx hly
    refine regionN (r := 2 + 3) 3 (fun k => match k with | 0 => 1 | 1 => 3 | _ => 4) (fun k => match k with | 0 => 12 | 1 => 14 | _ => 15) (fun k => match k with | 0 => lv (X % M256) | 1 => lv (Y % M256) | _ => .tuple #[lv (X % M256 / (Y % M256)), lv (X % M256 % (Y % M256))]) (fun i p q => #[true, decide (1 ≤ i), true, decide (2 ≤ i), decide (3 ≤ i), false, false, false, p, q, false, false] : Nat → Bool → Bool → Array Bool) #[.int .u64 0, .int .u64 0, .int .u64 0, .int .u64 0, .int .u64 0, .int .u64 0, .int .u64 0, .int .u64 0, .int .u64 0, .int .u64 0, .int .u64 0, .int .u64 0, .int .u64 0, .int .u64 0, .int .u64 0, .int .u64 0, .int .u64 0] 76 8 9 5 6 (by kernel_rfl) (by decide) (by decide) (by kernel_rfl) hS ?_ ?_ ?_ ?_
    · intro i hi T w2 K hT hK
      match i, hi with
      | 0, _ =>
        have t0 : T[11]? = some (.agg #[.int .u64 x0, .int .u64 x1, .int .u64 x2, .int .u64 x3]) := hT 11 (by decide) (by decide)
        refine wpOp_stepT (i := 1) rfl (fun K' hK' => ?_)
        have HK' := hideP hK'
        have HK := hideP hK
        clear hK hK' hT
        go_simp
        refine (C1.out _).mono ?_
        rintro e w3 ⟨rfl, hb⟩
        exact HK'.out _ _ (HK.out w3 hb)
      | 1, _ =>
        have t0 : T[13]? = some (.agg #[.int .u64 y0, .int .u64 y1, .int .u64 y2, .int .u64 y3]) := hT 13 (by decide) (by decide)
        refine wpOp_stepT (i := 3) rfl (fun K' hK' => ?_)
        have HK' := hideP hK'
        have HK := hideP hK
        clear hK hK' hT
        go_simp
        refine (C2.out _).mono ?_
        rintro e w3 ⟨rfl, hb⟩
        exact HK'.out _ _ (HK.out w3 hb)
      | 2, _ =>
        have t0 : T[12]? = some (lv (X % M256)) := hT 12 (by decide) (by decide)
        have t1 : T[14]? = some (lv (Y % M256)) := hT 14 (by decide) (by decide)
        refine wpOp_stepT (i := 4) rfl (fun K' hK' => ?_)
        have HK' := hideP hK'
        have HK := hideP hK
        clear hK hK' hT
        go_simp
        refine (C3.out _).mono ?_
        rintro e w3 ⟨rfl, hb⟩
        exact HK'.out _ _ (HK.out w3 hb)
      | k + 3, h => exact absurd h (by omega)
    · intro T w2 K hK
      refine wpOp_stepT rfl (fun K' hK' => ?_)
      have HK' := hideP hK'
      have HK := hideP hK
      clear hK hK'
      go_simp
      exact HK'.out _ _ HK.out
    · intro T w2 K hK
      refine wpOp_stepT rfl (fun K' hK' => ?_)
      have HK' := hideP hK'
      have HK := hideP hK
      clear hK hK'
      go_simp
      exact HK'.out _ _ HK.out
    intro k w2 p q hk hS2 fp fq pq
    have hone : one? p ≤ 1 ∧ one? q ≤ 1 := by unfold one?; constructor <;> split <;> omega
    obtain ⟨k', rfl⟩ : ∃ k', k = k' + 1 + 1 + 1 := ⟨k - 3, by omega⟩
    refine wpAnyH_takeO (i := 5) (d := 10) (v := .tuple #[lv (X % M256 / (Y % M256)), lv (X % M256 % (Y % M256))]) (L := fun p q => (fun i p q => #[true, decide (1 ≤ i), true, decide (2 ≤ i), decide (3 ≤ i), false, false, false, p, q, false, false] : Nat → Bool → Bool → Array Bool) 3 p q) rfl rfl (by decide) (by decide) (by kernel_rfl) (by intro p q; cases p <;> cases q <;> kernel_rfl) (by intro p q; cases p <;> cases q <;> kernel_rfl) (fun _ _ _ h => h) ?_ hS2 ?_
    · intro T hT
      have t0 : T[15]? = some (.tuple #[lv (X % M256 / (Y % M256)), lv (X % M256 % (Y % M256))]) := hT 15 (by decide) (by decide)
      refine Or.inl ⟨rfl, ?_⟩
      intro V hV
      clear hT
      go_simp
    refine wpAnyH_takeO (i := 6) (d := 16) (v := lv (X % M256 / (Y % M256))) (L := fun p q => ((fun i p q => #[true, decide (1 ≤ i), true, decide (2 ≤ i), decide (3 ≤ i), false, false, false, p, q, false, false] : Nat → Bool → Bool → Array Bool) 3 p q).setIfInBounds 5 true) rfl rfl (by decide) (by decide) (by kernel_rfl) (by intro p q; cases p <;> cases q <;> kernel_rfl) (by intro p q; cases p <;> cases q <;> kernel_rfl) (fun _ _ _ h => h) ?_ hS2 ?_
    · intro T hT
      have t0 : T[10]? = some (.tuple #[lv (X % M256 / (Y % M256)), lv (X % M256 % (Y % M256))]) := hT 10 (by decide) (by decide)
      refine Or.inl ⟨rfl, ?_⟩
      intro V hV
      clear hT
      go_simp
    refine wpAnyH_takeO (i := 7) (d := 17) (v := lv (X % M256 % (Y % M256))) (L := fun p q => (((fun i p q => #[true, decide (1 ≤ i), true, decide (2 ≤ i), decide (3 ≤ i), false, false, false, p, q, false, false] : Nat → Bool → Bool → Array Bool) 3 p q).setIfInBounds 5 true).setIfInBounds 6 true) rfl rfl (by decide) (by decide) (by kernel_rfl) (by intro p q; cases p <;> cases q <;> kernel_rfl) (by intro p q; cases p <;> cases q <;> kernel_rfl) (fun _ _ _ h => h) ?_ hS2 ?_
    · intro T hT
      have t0 : T[10]? = some (.tuple #[lv (X % M256 / (Y % M256)), lv (X % M256 % (Y % M256))]) := hT 10 (by decide) (by decide)
      refine Or.inl ⟨rfl, ?_⟩
      intro V hV
      clear hT
      go_simp
    refine region2 (r := 2) (fun p q => ((((fun i p q => #[true, decide (1 ≤ i), true, decide (2 ≤ i), decide (3 ≤ i), false, false, false, p, q, false, false] : Nat → Bool → Bool → Array Bool) 3 p q).setIfInBounds 5 true).setIfInBounds 6 true).setIfInBounds 7 true) #[.int .u64 0, .int .u64 0, .int .u64 0, .int .u64 0, .int .u64 0, .int .u64 0, .int .u64 0, .int .u64 0, .int .u64 0, .int .u64 0, .int .u64 0, .int .u64 0, .int .u64 0, .int .u64 0, .int .u64 0, .int .u64 0, .int .u64 0] 76 8 9 5 6 (by kernel_rfl) (by decide) rfl (by omega) hS2 fp fq pq ?_ ?_ ?_
    · intro T w2 K hK
      refine wpOp_stepT rfl (fun K' hK' => ?_)
      have HK' := hideP hK'
      have HK := hideP hK
      clear hK hK'
      go_simp
      exact HK'.out _ _ HK.out
    · intro T w2 K hK
      refine wpOp_stepT rfl (fun K' hK' => ?_)
      have HK' := hideP hK'
      have HK := hideP hK
      clear hK hK'
      go_simp
      exact HK'.out _ _ HK.out
    clear hk hS2 fp fq pq hone
    intro w2 b1 b2 hS l1 l2 h1 h2 n12
    simp only [TC, List.set_cons_succ, List.set_cons_zero]
    rw [zero17] at h1 h2
    refine wpAnyH_ready (rs := [10]) (by kernel_rfl) (by simp) (AllReadyH.cons rfl (fun K hK => ?_) AllReadyH.nil)
    rw [if_pos (by kernel_rfl)]
    refine wp_store_mid 76 (.tmp 5) (.tmp 16) rfl b1 0 (c17 (dg (X % M256 / (Y % M256)))) rfl rfl (there17 h1) size76 (oneCell17 _) ?_
    have g1 := blk_sets (c17 (dg (X % M256 / (Y % M256)))).toList 0 h1
    rw [putAll17] at g1
    have hB1 := But.sets (c17 (dg (X % M256 / (Y % M256)))).toList 0 (But.refl b1 w2)
    replace h2 := (hB1.same _ (Ne.symm n12)).trans h2
    have hSB := hS.trans (hB1.below.mono l1)
    clear h1 hB1
    generalize w2.setCells b1 0 (c17 (dg (X % M256 / (Y % M256)))).toList = w3 at g1 h2 hSB ⊢
    refine hK.out _ _ hSB (fun hS => ?_)
    clear hK K hSB
    refine wpAnyH_ready (rs := [11]) (by kernel_rfl) (by simp) (AllReadyH.cons rfl (fun K hK => ?_) AllReadyH.nil)
    rw [if_pos (by kernel_rfl)]
    refine wp_store_mid 76 (.tmp 6) (.tmp 17) rfl b2 0 (c17 (dg (X % M256 % (Y % M256)))) rfl rfl (there17 h2) size76 (oneCell17 _) ?_
    have g2 := blk_sets (c17 (dg (X % M256 % (Y % M256)))).toList 0 h2
    rw [putAll17] at g2
    have hB2 := But.sets (c17 (dg (X % M256 % (Y % M256)))).toList 0 (But.refl b2 w3)
    replace g1 := (hB2.same _ n12).trans g1
    have hSB := hS.trans (hB2.below.mono l2)
    clear h2 hB2
    generalize w3.setCells b2 0 (c17 (dg (X % M256 % (Y % M256)))).toList = w4 at g1 g2 hSB ⊢
    refine hK.out _ _ hSB (fun hS => ?_)
    clear hK K hSB
    refine wpAnyH_done (by kernel_rfl) ?_ _
    replace HBr := (hS.block _ (lt_of_block HBr)).trans HBr
    replace HBW := hideP (HBW.out.trans (hS.mono HBW.out.size))
    have lr := range17 g1
    clear g1 g2 l1 l2 hS n12 HBx HBy
    (try simp only [put_none])
    go_wp2_with (refine wpList_load_mid rfl 76 _ rfl b1 0 rfl (c17 (dg (X % M256 / (Y % M256)))).toList _ lr under76 rfl size76 ?_)
    refine (Ct.out _).mono ?_
    rintro e w5 ⟨rfl, hb⟩
    replace HBr := (hb.block _ (lt_of_block HBr)).trans HBr
    replace HBW := hideP (HBW.out.trans (hb.mono HBW.out.size))
    clear hb lr
    obtain ⟨j0, j1, j2, j3⟩ := cells4 HBr
    have jf : ∀ o, w5.frozen? ⟨w.heap.size + 1 + 1, o, none⟩ = false := fun o => blk_free HBr
    clear HBr
    go_wp2_with fail
    refine bodyPost_ret (v := .agg #[.int .u64 z0, .int .u64 z1, .int .u64 z2, .int .u64 z3]) (by simp [results, Try.results34, go_sem, j0, j1, j2, j3]) rfl ⟨rfl, ?_⟩
    exact below_stored4 HBW.out (by omega)

set_option maxHeartbeats 4000000 in
set_option maxRecDepth 100000 in
theorem refMod_any (X Y : Nat) (w : World) : Calls Try.prog 36 #[wv X, wv Y] w fun e w' => e = .returned (wv (restN (X % M256) (Y % M256))) ∧ Below w.heap.size w w' := by
  have c0 := fun W => zero_any Y W
  have c1 := fun W => fromWord_any X W
  have c2 := fun W => fromWord_any Y W
  have ct := fun W => toWord_any (X % M256 % (Y % M256)) W
  have hz0 : Y % M256 = 0 → wv (restN (X % M256) (Y % M256)) = .agg #[.int .u64 0, .int .u64 0, .int .u64 0, .int .u64 0] := fun h => by rw [restN, if_pos h]; rfl
  have hzt : Y % M256 ≠ 0 → wv (X % M256 % (Y % M256)) = wv (restN (X % M256) (Y % M256)) := fun h => by unfold restN; rw [if_neg h]
  obtain ⟨x0, x1, x2, x3, hx⟩ := wv_form X
  obtain ⟨y0, y1, y2, y3, hy⟩ := wv_form Y
  obtain ⟨z0, z1, z2, z3, hz⟩ := wv_form (restN (X % M256) (Y % M256))
  rw [hz] at hz0 hzt
  simp only [hx, hy, hz] at c0 c1 c2 ⊢
  clear hx hy hz
  have C0 := hideP c0
  have C1 := hideP c1
  have C2 := hideP c2
  clear c0 c1 c2
  go_enter Try.func36, Try.ntmps36
  go_wp2_with fail
  refine at_world_q (fun W0 hW0 => ?_)
  have HBx : W0.heap[w.heap.size]? = some (.cells #[.int .u64 x0, .int .u64 x1, .int .u64 x2, .int .u64 x3] 23 (0, 0)) := by
    rw [hW0]; simp only [World.alloc, Array.getElem?_push, Array.size_push]; simp [Nat.add_assoc]
  have HBy : W0.heap[w.heap.size + 1]? = some (.cells #[.int .u64 y0, .int .u64 y1, .int .u64 y2, .int .u64 y3] 23 (0, 0)) := by
    rw [hW0]; simp only [World.alloc, Array.getElem?_push, Array.size_push]; simp
  have HBr : W0.heap[w.heap.size + 1 + 1]? = some (.cells #[.int .u64 0, .int .u64 0, .int .u64 0, .int .u64 0] 23 (0, 0)) := by
    rw [hW0]; simp only [World.alloc, Array.getElem?_push, Array.size_push]; simp
  have HBW : Hid (Below w.heap.size w W0) := by
    show Below _ _ _
    rw [hW0]
    repeat first | exact Below.refl _ _ | (refine Below.alloc ?_ (by simp <;> omega) _)
  clear hW0
  refine (C0.out _).mono ?_
  rintro e W1 ⟨rfl, hb⟩
  replace HBx := (hb.block _ (lt_of_block HBx)).trans HBx
  replace HBy := (hb.block _ (lt_of_block HBy)).trans HBy
  replace HBr := (hb.block _ (lt_of_block HBr)).trans HBr
  replace HBW := hideP (HBW.out.trans (hb.mono HBW.out.size))
  clear hb C0
  by_cases hd0 : Y % M256 = 0
  · have hzz := hz0 hd0
    rw [decide_eq_true hd0]
    have HZZ := hideP hzz
    clear hz0 hzt ct hzz hd0 HBx HBy C1 C2
    obtain ⟨j0, j1, j2, j3⟩ := cells4 HBr
    have jf : ∀ o, W1.frozen? ⟨w.heap.size + 1 + 1, o, none⟩ = false := fun o => blk_free HBr
    clear HBr
    go_wp2_with fail
    refine bodyPost_ret (v := .agg #[.int .u64 0, .int .u64 0, .int .u64 0, .int .u64 0]) (by simp [results, Try.results36, go_sem, j0, j1, j2, j3]) rfl ⟨by rw [HZZ.out], ?_⟩
    exact below_stored4 HBW.out (by omega)
  · rw [decide_eq_false hd0]
    have hzz := hzt hd0
    rw [hzz] at ct
    have Ct := hideP ct
    have hpos : 0 < Y % M256 := Nat.pos_of_ne_zero hd0
    have c3 := fun W => split_any (X % M256) (Y % M256) (Nat.lt_trans (word_lt8 X) (by decide)) hpos (word_lt8 Y) W
    have C3 := hideP c3
    clear ct hz0 hzz hzt hd0 c3 hpos
    obtain ⟨cx0, cx1, cx2, cx3⟩ := cells4 HBx
    have hlx := lt_of_block HBx
    obtain ⟨cy0, cy1, cy2, cy3⟩ := cells4 HBy
    have hly := lt_of_block HBy
    go_wp2_with fail
    refine wp_region_heldS (S := fun V => Below W1.heap.size W1 V) (by kernel_rfl) (Below.refl _ _).drew (fun hS => ?_)
    refine wpAnyH_takeL (i := 0) (v := ?_) rfl (by kernel_rfl) (by kernel_rfl) (by kernel_rfl) (fun _ _ _ h => h) (Or.inl ⟨by kernel_rfl, ?_⟩) hS ?_
    rotate_left
    · intro V hV
      have k0 := (hV.cell (p := ⟨w.heap.size, 0, none⟩) hlx).trans cx0
      have k1 := (hV.cell (p := ⟨w.heap.size, 1, none⟩) hlx).trans cx1
      have k2 := (hV.cell (p := ⟨w.heap.size, 2, none⟩) hlx).trans cx2
      have k3 := (hV.cell (p := ⟨w.heap.size, 3, none⟩) hlx).trans cx3
      go_simp
      (try with_reducible rfl)
    simp only [put_list, List.set_cons_succ, List.set_cons_zero]
    refine wpAnyH_takeL (i := 2) (v := ?_) rfl (by kernel_rfl) (by kernel_rfl) (by kernel_rfl) (fun _ _ _ h => h) (Or.inl ⟨by kernel_rfl, ?_⟩) hS ?_
    rotate_left
    · intro V hV
      have k0 := (hV.cell (p := ⟨w.heap.size + 1, 0, none⟩) hly).trans cy0
      have k1 := (hV.cell (p := ⟨w.heap.size + 1, 1, none⟩) hly).trans cy1
      have k2 := (hV.cell (p := ⟨w.heap.size + 1, 2, none⟩) hly).trans cy2
      have k3 := (hV.cell (p := ⟨w.heap.size + 1, 3, none⟩) hly).trans cy3
      go_simp
      (try with_reducible rfl)
    simp only [put_list, List.set_cons_succ, List.set_cons_zero]
    clear cx0 cx1 cx2 cx3 cy0 cy1 cy2 cy3 hlx hly
    refine regionN (r := 2 + 3) 3 (fun k => match k with | 0 => 1 | 1 => 3 | _ => 4) (fun k => match k with | 0 => 12 | 1 => 14 | _ => 15) (fun k => match k with | 0 => lv (X % M256) | 1 => lv (Y % M256) | _ => .tuple #[lv (X % M256 / (Y % M256)), lv (X % M256 % (Y % M256))]) (fun i p q => #[true, decide (1 ≤ i), true, decide (2 ≤ i), decide (3 ≤ i), false, false, false, p, q, false, false] : Nat → Bool → Bool → Array Bool) #[.int .u64 0, .int .u64 0, .int .u64 0, .int .u64 0, .int .u64 0, .int .u64 0, .int .u64 0, .int .u64 0, .int .u64 0, .int .u64 0, .int .u64 0, .int .u64 0, .int .u64 0, .int .u64 0, .int .u64 0, .int .u64 0, .int .u64 0] 76 8 9 5 6 (by kernel_rfl) (by decide) (by decide) (by kernel_rfl) hS ?_ ?_ ?_ ?_
    · intro i hi T w2 K hT hK
      match i, hi with
      | 0, _ =>
        have t0 : T[11]? = some (.agg #[.int .u64 x0, .int .u64 x1, .int .u64 x2, .int .u64 x3]) := hT 11 (by decide) (by decide)
        refine wpOp_stepT (i := 1) rfl (fun K' hK' => ?_)
        have HK' := hideP hK'
        have HK := hideP hK
        clear hK hK' hT
        go_simp
        refine (C1.out _).mono ?_
        rintro e w3 ⟨rfl, hb⟩
        exact HK'.out _ _ (HK.out w3 hb)
      | 1, _ =>
        have t0 : T[13]? = some (.agg #[.int .u64 y0, .int .u64 y1, .int .u64 y2, .int .u64 y3]) := hT 13 (by decide) (by decide)
        refine wpOp_stepT (i := 3) rfl (fun K' hK' => ?_)
        have HK' := hideP hK'
        have HK := hideP hK
        clear hK hK' hT
        go_simp
        refine (C2.out _).mono ?_
        rintro e w3 ⟨rfl, hb⟩
        exact HK'.out _ _ (HK.out w3 hb)
      | 2, _ =>
        have t0 : T[12]? = some (lv (X % M256)) := hT 12 (by decide) (by decide)
        have t1 : T[14]? = some (lv (Y % M256)) := hT 14 (by decide) (by decide)
        refine wpOp_stepT (i := 4) rfl (fun K' hK' => ?_)
        have HK' := hideP hK'
        have HK := hideP hK
        clear hK hK' hT
        go_simp
        refine (C3.out _).mono ?_
        rintro e w3 ⟨rfl, hb⟩
        exact HK'.out _ _ (HK.out w3 hb)
      | k + 3, h => exact absurd h (by omega)
    · intro T w2 K hK
      refine wpOp_stepT rfl (fun K' hK' => ?_)
      have HK' := hideP hK'
      have HK := hideP hK
      clear hK hK'
      go_simp
      exact HK'.out _ _ HK.out
    · intro T w2 K hK
      refine wpOp_stepT rfl (fun K' hK' => ?_)
      have HK' := hideP hK'
      have HK := hideP hK
      clear hK hK'
      go_simp
      exact HK'.out _ _ HK.out
    intro k w2 p q hk hS2 fp fq pq
    have hone : one? p ≤ 1 ∧ one? q ≤ 1 := by unfold one?; constructor <;> split <;> omega
    obtain ⟨k', rfl⟩ : ∃ k', k = k' + 1 + 1 + 1 := ⟨k - 3, by omega⟩
    refine wpAnyH_takeO (i := 5) (d := 10) (v := .tuple #[lv (X % M256 / (Y % M256)), lv (X % M256 % (Y % M256))]) (L := fun p q => (fun i p q => #[true, decide (1 ≤ i), true, decide (2 ≤ i), decide (3 ≤ i), false, false, false, p, q, false, false] : Nat → Bool → Bool → Array Bool) 3 p q) rfl rfl (by decide) (by decide) (by kernel_rfl) (by intro p q; cases p <;> cases q <;> kernel_rfl) (by intro p q; cases p <;> cases q <;> kernel_rfl) (fun _ _ _ h => h) ?_ hS2 ?_
    · intro T hT
      have t0 : T[15]? = some (.tuple #[lv (X % M256 / (Y % M256)), lv (X % M256 % (Y % M256))]) := hT 15 (by decide) (by decide)
      refine Or.inl ⟨rfl, ?_⟩
      intro V hV
      clear hT
      go_simp
    refine wpAnyH_takeO (i := 6) (d := 16) (v := lv (X % M256 / (Y % M256))) (L := fun p q => ((fun i p q => #[true, decide (1 ≤ i), true, decide (2 ≤ i), decide (3 ≤ i), false, false, false, p, q, false, false] : Nat → Bool → Bool → Array Bool) 3 p q).setIfInBounds 5 true) rfl rfl (by decide) (by decide) (by kernel_rfl) (by intro p q; cases p <;> cases q <;> kernel_rfl) (by intro p q; cases p <;> cases q <;> kernel_rfl) (fun _ _ _ h => h) ?_ hS2 ?_
    · intro T hT
      have t0 : T[10]? = some (.tuple #[lv (X % M256 / (Y % M256)), lv (X % M256 % (Y % M256))]) := hT 10 (by decide) (by decide)
      refine Or.inl ⟨rfl, ?_⟩
      intro V hV
      clear hT
      go_simp
    refine wpAnyH_takeO (i := 7) (d := 17) (v := lv (X % M256 % (Y % M256))) (L := fun p q => (((fun i p q => #[true, decide (1 ≤ i), true, decide (2 ≤ i), decide (3 ≤ i), false, false, false, p, q, false, false] : Nat → Bool → Bool → Array Bool) 3 p q).setIfInBounds 5 true).setIfInBounds 6 true) rfl rfl (by decide) (by decide) (by kernel_rfl) (by intro p q; cases p <;> cases q <;> kernel_rfl) (by intro p q; cases p <;> cases q <;> kernel_rfl) (fun _ _ _ h => h) ?_ hS2 ?_
    · intro T hT
      have t0 : T[10]? = some (.tuple #[lv (X % M256 / (Y % M256)), lv (X % M256 % (Y % M256))]) := hT 10 (by decide) (by decide)
      refine Or.inl ⟨rfl, ?_⟩
      intro V hV
      clear hT
      go_simp
    refine region2 (r := 2) (fun p q => ((((fun i p q => #[true, decide (1 ≤ i), true, decide (2 ≤ i), decide (3 ≤ i), false, false, false, p, q, false, false] : Nat → Bool → Bool → Array Bool) 3 p q).setIfInBounds 5 true).setIfInBounds 6 true).setIfInBounds 7 true) #[.int .u64 0, .int .u64 0, .int .u64 0, .int .u64 0, .int .u64 0, .int .u64 0, .int .u64 0, .int .u64 0, .int .u64 0, .int .u64 0, .int .u64 0, .int .u64 0, .int .u64 0, .int .u64 0, .int .u64 0, .int .u64 0, .int .u64 0] 76 8 9 5 6 (by kernel_rfl) (by decide) rfl (by omega) hS2 fp fq pq ?_ ?_ ?_
    · intro T w2 K hK
      refine wpOp_stepT rfl (fun K' hK' => ?_)
      have HK' := hideP hK'
      have HK := hideP hK
      clear hK hK'
      go_simp
      exact HK'.out _ _ HK.out
    · intro T w2 K hK
      refine wpOp_stepT rfl (fun K' hK' => ?_)
      have HK' := hideP hK'
      have HK := hideP hK
      clear hK hK'
      go_simp
      exact HK'.out _ _ HK.out
    clear hk hS2 fp fq pq hone
    intro w2 b1 b2 hS l1 l2 h1 h2 n12
    simp only [TC, List.set_cons_succ, List.set_cons_zero]
    rw [zero17] at h1 h2
    refine wpAnyH_ready (rs := [10]) (by kernel_rfl) (by simp) (AllReadyH.cons rfl (fun K hK => ?_) AllReadyH.nil)
    rw [if_pos (by kernel_rfl)]
    refine wp_store_mid 76 (.tmp 5) (.tmp 16) rfl b1 0 (c17 (dg (X % M256 / (Y % M256)))) rfl rfl (there17 h1) size76 (oneCell17 _) ?_
    have g1 := blk_sets (c17 (dg (X % M256 / (Y % M256)))).toList 0 h1
    rw [putAll17] at g1
    have hB1 := But.sets (c17 (dg (X % M256 / (Y % M256)))).toList 0 (But.refl b1 w2)
    replace h2 := (hB1.same _ (Ne.symm n12)).trans h2
    have hSB := hS.trans (hB1.below.mono l1)
    clear h1 hB1
    generalize w2.setCells b1 0 (c17 (dg (X % M256 / (Y % M256)))).toList = w3 at g1 h2 hSB ⊢
    refine hK.out _ _ hSB (fun hS => ?_)
    clear hK K hSB
    refine wpAnyH_ready (rs := [11]) (by kernel_rfl) (by simp) (AllReadyH.cons rfl (fun K hK => ?_) AllReadyH.nil)
    rw [if_pos (by kernel_rfl)]
    refine wp_store_mid 76 (.tmp 6) (.tmp 17) rfl b2 0 (c17 (dg (X % M256 % (Y % M256)))) rfl rfl (there17 h2) size76 (oneCell17 _) ?_
    have g2 := blk_sets (c17 (dg (X % M256 % (Y % M256)))).toList 0 h2
    rw [putAll17] at g2
    have hB2 := But.sets (c17 (dg (X % M256 % (Y % M256)))).toList 0 (But.refl b2 w3)
    replace g1 := (hB2.same _ n12).trans g1
    have hSB := hS.trans (hB2.below.mono l2)
    clear h2 hB2
    generalize w3.setCells b2 0 (c17 (dg (X % M256 % (Y % M256)))).toList = w4 at g1 g2 hSB ⊢
    refine hK.out _ _ hSB (fun hS => ?_)
    clear hK K hSB
    refine wpAnyH_done (by kernel_rfl) ?_ _
    replace HBr := (hS.block _ (lt_of_block HBr)).trans HBr
    replace HBW := hideP (HBW.out.trans (hS.mono HBW.out.size))
    have lr := range17 g2
    clear g1 g2 l1 l2 hS n12 HBx HBy
    (try simp only [put_none])
    go_wp2_with (refine wpList_load_mid rfl 76 _ rfl b2 0 rfl (c17 (dg (X % M256 % (Y % M256)))).toList _ lr under76 rfl size76 ?_)
    refine (Ct.out _).mono ?_
    rintro e w5 ⟨rfl, hb⟩
    replace HBr := (hb.block _ (lt_of_block HBr)).trans HBr
    replace HBW := hideP (HBW.out.trans (hb.mono HBW.out.size))
    clear hb lr
    obtain ⟨j0, j1, j2, j3⟩ := cells4 HBr
    have jf : ∀ o, w5.frozen? ⟨w.heap.size + 1 + 1, o, none⟩ = false := fun o => blk_free HBr
    clear HBr
    go_wp2_with fail
    refine bodyPost_ret (v := .agg #[.int .u64 z0, .int .u64 z1, .int .u64 z2, .int .u64 z3]) (by simp [results, Try.results36, go_sem, j0, j1, j2, j3]) rfl ⟨rfl, ?_⟩
    exact below_stored4 HBW.out (by omega)

end Go.Proofs.Ytpnijncoldihfaa
