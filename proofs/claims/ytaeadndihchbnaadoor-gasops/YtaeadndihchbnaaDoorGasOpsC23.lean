/-
  The document's Op: the walk.
-/
import Derived.Test.YtaeadndihchbnaaDoorGasOpsC22
namespace Go.Proofs.YtaeadndihchbnaaDoor
open Go.RowKit Go.Shelf

set_option maxHeartbeats 8000000 in
set_option maxRecDepth 100000 in
theorem rop_any (o : Nat) (h : o < 256) (w : World) : Calls Tryd.prog 14 #[.int .u8 o] w fun e w' => e = .returned (opR o).val ∧ Below w.heap.size w w' := by
  have e0 : IntKind.i64.wrap (o : Int) = (o : Int) := by rw [IntKind.wrap_i64]; omega
  have HO := hideP h
  have HR := hideP (fun W => rows_any W)
  clear h
  go_enter Tryd.func14, Tryd.ntmps14
  go_wp2_with fail
  refine (HR.out _).mono ?_
  rintro e W1 ⟨rfl, hW⟩
  have hsz : (w.alloc (.cells #[.string { data := #[] }, .int .u64 0, .int .i64 0, .int .i64 0, .int .i64 0] 24 (0, 0))).heap.size = w.heap.size + 1 := by simp
  obtain ⟨HB, HT, HBW⟩ := box2 hW
  clear hW
  have HB := hideP HB
  have HT := hideP HT
  have HBW := hideP HBW
  go_wp2_with fail
  rename_i Q' K hK
  have HK := hideP hK
  clear hK
  go_loopw [6] (fun i wr => ∃ k : Nat, k ≤ 79 ∧ i = .int .i64 k ∧ wr = W1 ∧ Hid (∀ j, j < k → (rowAt j).1 ≠ o)) (fun i _ => 79 - (intOf i).toNat)
  case atStart => exact ⟨0, by omega, rfl, rfl, fun j hj => absurd hj (by omega)⟩
  case round =>
    obtain ⟨k, hk, rfl, rfl, HN⟩ := hrel
    by_cases hlt : k < 79
    · by_cases hh : (rowAt k).1 = o
      · have g2 : (k : Int) < 79 := by omega
        have HV : Hid (opR o = ⟨(rowAt k).2.1, (rowAt k).2.2.1, (rowAt k).2.2.2.1, (rowAt k).2.2.2.2, 0, true⟩) := by show _ = _; unfold opR; rw [rowIx_some hlt HN.out hh]
        have HLT := hideP hlt
        obtain ⟨c0, c1, c2, c3, c4⟩ := row_cells HT.out hlt
        rw [hh] at c0
        generalize hA : rowAt k = ra at *
        obtain ⟨oo, s, gs, pp, qq⟩ := ra
        dsimp only at c0 c1 c2 c3 c4 hh
        subst hh
        have HA := hideP hA
        have HV : Hid (opR oo = ⟨s, gs, pp, qq, 0, true⟩) := HV
        clear hA HN hlt hk
        go_wp2_with fail
        refine wp_region_heldS (S := fun V => V.heap[w.heap.size + 1]? = some (.cells rowsC.toArray 86 (0, 0)) ∧ (∃ z0 z1 z2 z3 z4 : Value, V.heap[w.heap.size]? = some (.cells #[z0, z1, z2, z3, z4] 24 (0, 0))) ∧ Below w.heap.size w V) (by kernel_rfl) ⟨HT.out, ⟨_, _, _, _, _, HB.out⟩, HBW.out.drew⟩ (fun hS => ?_)
        generalize wr.drew = Wd at hS ⊢
        refine wpAnyH_takeL (i := 0) (v := ?_) rfl (by kernel_rfl) (by kernel_rfl) (by kernel_rfl) (fun _ _ _ h => h) (Or.inl ⟨by kernel_rfl, ?_⟩) hS ?_
        rotate_left
        · intro V hV
          go_simp
          (try with_reducible rfl)
        simp only [put_list, List.set_cons_succ, List.set_cons_zero]
        refine wpAnyH_takeL (i := 1) (v := ?_) rfl (by kernel_rfl) (by kernel_rfl) (by kernel_rfl) (fun _ _ _ h => h) (Or.inl ⟨by kernel_rfl, ?_⟩) hS ?_
        rotate_left
        · intro V hV
          go_simp
          (try with_reducible rfl)
        simp only [put_list, List.set_cons_succ, List.set_cons_zero]
        refine wpAnyH_takeL (i := 2) (v := ?_) rfl (by kernel_rfl) (by kernel_rfl) (by kernel_rfl) (fun _ _ _ h => h) (Or.inl ⟨by kernel_rfl, ?_⟩) hS ?_
        rotate_left
        · intro V hV
          go_simp
          (try with_reducible rfl)
        simp only [put_list, List.set_cons_succ, List.set_cons_zero]
        refine wpAnyH_takeL (i := 3) (v := ?_) rfl (by kernel_rfl) (by kernel_rfl) (by kernel_rfl) (fun _ _ _ h => h) (Or.inl ⟨by kernel_rfl, ?_⟩) hS ?_
        rotate_left
        · intro V hV
          go_simp
          (try with_reducible rfl)
        simp only [put_list, List.set_cons_succ, List.set_cons_zero]
        refine wpAnyH_takeL (i := 4) (v := ?_) rfl (by kernel_rfl) (by kernel_rfl) (by kernel_rfl) (fun _ _ _ h => h) (Or.inl ⟨by kernel_rfl, ?_⟩) hS ?_
        rotate_left
        · intro V hV
          obtain ⟨r0, r1, r2, r3, r4⟩ := row_cells hV.1 HLT.out
          rw [HA.out] at r0 r1 r2 r3 r4
          dsimp only at r0 r1 r2 r3 r4
          go_simp
          (try with_reducible rfl)
        simp only [put_list, List.set_cons_succ, List.set_cons_zero]
        refine wpAnyH_takeL (i := 5) (v := ?_) rfl (by kernel_rfl) (by kernel_rfl) (by kernel_rfl) (fun _ _ _ h => h) (Or.inl ⟨by kernel_rfl, ?_⟩) hS ?_
        rotate_left
        · intro V hV
          go_simp
          (try with_reducible rfl)
        simp only [put_list, List.set_cons_succ, List.set_cons_zero]
        refine wpAnyH_takeL (i := 6) (v := ?_) rfl (by kernel_rfl) (by kernel_rfl) (by kernel_rfl) (fun _ _ _ h => h) (Or.inl ⟨by kernel_rfl, ?_⟩) hS ?_
        rotate_left
        · intro V hV
          go_simp
          (try with_reducible rfl)
        simp only [put_list, List.set_cons_succ, List.set_cons_zero]
        refine wpAnyH_takeL (i := 7) (v := ?_) rfl (by kernel_rfl) (by kernel_rfl) (by kernel_rfl) (fun _ _ _ h => h) (Or.inl ⟨by kernel_rfl, ?_⟩) hS ?_
        rotate_left
        · intro V hV
          go_simp
          (try with_reducible rfl)
        simp only [put_list, List.set_cons_succ, List.set_cons_zero]
        refine wpAnyH_takeL (i := 8) (v := ?_) rfl (by kernel_rfl) (by kernel_rfl) (by kernel_rfl) (fun _ _ _ h => h) (Or.inl ⟨by kernel_rfl, ?_⟩) hS ?_
        rotate_left
        · intro V hV
          go_simp
          (try with_reducible rfl)
        simp only [put_list, List.set_cons_succ, List.set_cons_zero]
        refine wpAnyH_takeL (i := 9) (v := ?_) rfl (by kernel_rfl) (by kernel_rfl) (by kernel_rfl) (fun _ _ _ h => h) (Or.inl ⟨by kernel_rfl, ?_⟩) hS ?_
        rotate_left
        · intro V hV
          obtain ⟨r0, r1, r2, r3, r4⟩ := row_cells hV.1 HLT.out
          rw [HA.out] at r0 r1 r2 r3 r4
          dsimp only at r0 r1 r2 r3 r4
          go_simp
          (try with_reducible rfl)
        simp only [put_list, List.set_cons_succ, List.set_cons_zero]
        refine wpAnyH_takeL (i := 10) (v := ?_) rfl (by kernel_rfl) (by kernel_rfl) (by kernel_rfl) (fun _ _ _ h => h) (Or.inl ⟨by kernel_rfl, ?_⟩) hS ?_
        rotate_left
        · intro V hV
          go_simp
          (try with_reducible rfl)
        simp only [put_list, List.set_cons_succ, List.set_cons_zero]
        refine wpAnyH_takeL (i := 11) (v := ?_) rfl (by kernel_rfl) (by kernel_rfl) (by kernel_rfl) (fun _ _ _ h => h) (Or.inl ⟨by kernel_rfl, ?_⟩) hS ?_
        rotate_left
        · intro V hV
          go_simp
          (try with_reducible rfl)
        simp only [put_list, List.set_cons_succ, List.set_cons_zero]
        refine wpAnyH_takeL (i := 12) (v := ?_) rfl (by kernel_rfl) (by kernel_rfl) (by kernel_rfl) (fun _ _ _ h => h) (Or.inl ⟨by kernel_rfl, ?_⟩) hS ?_
        rotate_left
        · intro V hV
          go_simp
          (try with_reducible rfl)
        simp only [put_list, List.set_cons_succ, List.set_cons_zero]
        refine wpAnyH_takeL (i := 13) (v := ?_) rfl (by kernel_rfl) (by kernel_rfl) (by kernel_rfl) (fun _ _ _ h => h) (Or.inl ⟨by kernel_rfl, ?_⟩) hS ?_
        rotate_left
        · intro V hV
          go_simp
          (try with_reducible rfl)
        simp only [put_list, List.set_cons_succ, List.set_cons_zero]
        refine wpAnyH_takeL (i := 14) (v := ?_) rfl (by kernel_rfl) (by kernel_rfl) (by kernel_rfl) (fun _ _ _ h => h) (Or.inl ⟨by kernel_rfl, ?_⟩) hS ?_
        rotate_left
        · intro V hV
          obtain ⟨r0, r1, r2, r3, r4⟩ := row_cells hV.1 HLT.out
          rw [HA.out] at r0 r1 r2 r3 r4
          dsimp only at r0 r1 r2 r3 r4
          go_simp
          (try with_reducible rfl)
        simp only [put_list, List.set_cons_succ, List.set_cons_zero]
        refine wpAnyH_takeL (i := 15) (v := ?_) rfl (by kernel_rfl) (by kernel_rfl) (by kernel_rfl) (fun _ _ _ h => h) (Or.inl ⟨by kernel_rfl, ?_⟩) hS ?_
        rotate_left
        · intro V hV
          go_simp
          (try with_reducible rfl)
        simp only [put_list, List.set_cons_succ, List.set_cons_zero]
        refine wpAnyH_takeL (i := 16) (v := ?_) rfl (by kernel_rfl) (by kernel_rfl) (by kernel_rfl) (fun _ _ _ h => h) (Or.inl ⟨by kernel_rfl, ?_⟩) hS ?_
        rotate_left
        · intro V hV
          go_simp
          (try with_reducible rfl)
        simp only [put_list, List.set_cons_succ, List.set_cons_zero]
        refine wpAnyH_takeL (i := 17) (v := ?_) rfl (by kernel_rfl) (by kernel_rfl) (by kernel_rfl) (fun _ _ _ h => h) (Or.inl ⟨by kernel_rfl, ?_⟩) hS ?_
        rotate_left
        · intro V hV
          go_simp
          (try with_reducible rfl)
        simp only [put_list, List.set_cons_succ, List.set_cons_zero]
        refine wpAnyH_takeL (i := 18) (v := ?_) rfl (by kernel_rfl) (by kernel_rfl) (by kernel_rfl) (fun _ _ _ h => h) (Or.inl ⟨by kernel_rfl, ?_⟩) hS ?_
        rotate_left
        · intro V hV
          go_simp
          (try with_reducible rfl)
        simp only [put_list, List.set_cons_succ, List.set_cons_zero]
        refine wpAnyH_takeL (i := 19) (v := ?_) rfl (by kernel_rfl) (by kernel_rfl) (by kernel_rfl) (fun _ _ _ h => h) (Or.inl ⟨by kernel_rfl, ?_⟩) hS ?_
        rotate_left
        · intro V hV
          obtain ⟨r0, r1, r2, r3, r4⟩ := row_cells hV.1 HLT.out
          rw [HA.out] at r0 r1 r2 r3 r4
          dsimp only at r0 r1 r2 r3 r4
          go_simp
          (try with_reducible rfl)
        simp only [put_list, List.set_cons_succ, List.set_cons_zero]
        refine wpAnyH_takeL (i := 20) (v := ?_) rfl (by kernel_rfl) (by kernel_rfl) (by kernel_rfl) (fun _ _ _ h => h) (Or.inl ⟨by kernel_rfl, ?_⟩) hS ?_
        rotate_left
        · intro V hV
          go_simp
          (try with_reducible rfl)
        simp only [put_list, List.set_cons_succ, List.set_cons_zero]
        refine wpAnyH_ready (rs := [21]) (by kernel_rfl) (by simp) (AllReadyH.cons rfl (fun K hK => ?_) AllReadyH.nil)
        obtain ⟨hT, ⟨z0, z1, z2, z3, z4, hBx⟩, hBl⟩ := hS
        have y0 := blk_cell (o := 0) hBx rfl
        have y1 := blk_cell (o := 1) hBx rfl
        have y2 := blk_cell (o := 2) hBx rfl
        have y3 := blk_cell (o := 3) hBx rfl
        have y4 := blk_cell (o := 4) hBx rfl
        have yf : ∀ i, Wd.frozen? ⟨w.heap.size, i, none⟩ = false := fun i => blk_free hBx
        go_simp
        have HE : ∀ V, V = ((((Wd.setCell ⟨w.heap.size, 0, none⟩ (.string s)).setCell ⟨w.heap.size, 1, none⟩ (.int .u64 gs)).setCell ⟨w.heap.size, 2, none⟩ (.int .i64 pp)).setCell ⟨w.heap.size, 3, none⟩ (.int .i64 qq)).setCell ⟨w.heap.size, 4, none⟩ (.int .i64 0) →
            V.heap[w.heap.size + 1]? = some (.cells rowsC.toArray 86 (0, 0)) ∧ V.heap[w.heap.size]? = some (.cells #[.string s, .int .u64 gs, .int .i64 pp, .int .i64 qq, .int .i64 0] 24 (0, 0)) ∧ Below w.heap.size w V := by
          rintro V rfl
          refine ⟨?_, ?_, ?_⟩
          · iterate 5 refine (Below.heap_setCell _ _ _ _ (by dsimp only; omega)).trans ?_
            exact hT
          · exact blk_set (blk_set (blk_set (blk_set (blk_set hBx _) _) _) _) _
          · iterate 5 refine Below.setCell ?_ (by dsimp only <;> omega) _
            exact hBl
        obtain ⟨q1, q2, q3⟩ := HE _ rfl
        refine hK.out _ _ ⟨q1, ⟨_, _, _, _, _, q2⟩, q3⟩ (fun hS => ?_)
        have HQ := hideP (And.intro q2 q3)
        clear hK K HE hT hBx hBl y0 y1 y2 y3 y4 yf q1 q2 q3
        refine wpAnyH_ready (rs := [22]) (by kernel_rfl) (by simp) (AllReadyH.cons rfl (fun K hK => ?_) AllReadyH.nil)
        go_simp
        refine hK.out _ _ hS (fun hS => ?_)
        clear hK K
        refine wpAnyH_done (by kernel_rfl) ?_ _
        obtain ⟨q2, q3⟩ := HQ.out
        clear hS HQ
        go_wp2_with fail
        refine at_bodyPost (fun V hV => ?_)
        rw [← hV] at q2 q3
        clear hV c0 c1 c2 c3 c4
        have c0 := blk_cell (o := 0) q2 rfl
        have c1 := blk_cell (o := 1) q2 rfl
        have c2 := blk_cell (o := 2) q2 rfl
        have c3 := blk_cell (o := 3) q2 rfl
        have c4 := blk_cell (o := 4) q2 rfl
        refine bodyPost_ret (v := .tuple #[.agg #[.string s, .int .u64 gs, .int .i64 pp, .int .i64 qq, .int .i64 0], .bool true]) (by simp [results, Tryd.results14, go_sem, c0, c1, c2, c3, c4]) rfl ⟨by rw [HV.out]; rfl, q3⟩
      · obtain ⟨c0, c1, c2, c3, c4⟩ := row_cells HT.out hlt
        have g1 : ¬ ((rowAt k).1 : Int) = (o : Int) := by omega
        have t1 : IntKind.i64.wrap ((k : Int) + 1) = (k : Int) + 1 := by rw [IntKind.wrap_i64]; omega
        have g2 : (k : Int) < 79 := by omega
        have HNX : Hid (k < 79 ∧ ∀ j, j < k + 1 → (rowAt j).1 ≠ o) := ⟨hlt, fun j hj => by
          by_cases e : j = k
          · subst e; exact hh
          · exact HN.out j (by omega)⟩
        generalize (rowAt k).1 = ro at *
        clear HN hk hlt hh c1 c2 c3 c4
        go_wp2_with fail
        exact ⟨⟨k + 1, by have := HNX.out.1; omega, rfl, trivial, HNX.out.2⟩, by have := HNX.out.1; simp [intOf]; omega⟩
    · obtain rfl : k = 79 := by omega
      have HI := hideP (rowIx_none HN.out)
      clear HN hk hlt
      have ho := HO.out
      by_cases h0 : 96 ≤ o ∧ o ≤ 127
      · have HV : Hid (opR o = ⟨{ data := #[80, 85, 83, 72] } ++ itoaB (o - 95), 3, 0, 1, o - 95, true⟩) := by show _ = _; unfold opR; rw [HI.out]; dsimp only; rw [if_pos h0]
        have h6 := hideP (fun W => itoa_any (o - 95) (by omega) W)
        have gz := itoa_size (o - 95)
        have ec : ((o - 95 : Nat) : Int) = (o : Int) - 95 := by omega
        rw [ec] at h6
        generalize itoaB (o - 95) = t at *
        have gz1 : ¬ 9223372036854775807 < ({ data := #[80, 85, 83, 72] } : ByteArray).size + t.size := by have : ({ data := #[80, 85, 83, 72] } : ByteArray).size = 4 := rfl; omega
        have gz2 : ¬ 9223372036854775807 < 4 + t.size := by omega
        have w95 : IntKind.i64.wrap ((o : Int) - 95) = (o : Int) - 95 := by rw [IntKind.wrap_i64]; omega
        have ga0 : (96 : Int) ≤ (o : Int) := by omega
        have gb0 : (o : Int) ≤ 127 := by omega
        clear gz ec ho h0
        have y0 := blk_cell (o := 0) HB.out rfl
        have y1 := blk_cell (o := 1) HB.out rfl
        have y2 := blk_cell (o := 2) HB.out rfl
        have y3 := blk_cell (o := 3) HB.out rfl
        have y4 := blk_cell (o := 4) HB.out rfl
        have yf : ∀ i, wr.frozen? ⟨w.heap.size, i, none⟩ = false := fun i => blk_free HB.out
        have HE : ∀ V, V = ((((wr.setCell ⟨w.heap.size, 0, none⟩ (.string ({ data := #[80, 85, 83, 72] } ++ t))).setCell ⟨w.heap.size, 1, none⟩ (.int .u64 3)).setCell ⟨w.heap.size, 2, none⟩ (.int .i64 0)).setCell ⟨w.heap.size, 3, none⟩ (.int .i64 1)).setCell ⟨w.heap.size, 4, none⟩ (.int .i64 ((o : Int) - 95)) →
            V.heap[w.heap.size]? = some (.cells #[.string ({ data := #[80, 85, 83, 72] } ++ t), .int .u64 3, .int .i64 0, .int .i64 1, .int .i64 ((o : Int) - 95)] 24 (0, 0)) ∧ Below w.heap.size w V := by
          rintro V rfl
          refine ⟨?_, ?_⟩
          · exact blk_set (blk_set (blk_set (blk_set (blk_set HB.out _) _) _) _) _
          · iterate 5 refine Below.setCell ?_ (by dsimp only <;> omega) _
            exact HBW.out
        go_wp2_with fail
        refine HK.out _ _ ?_
        go_wp2_with fail
        refine (h6.out _).mono ?_
        rintro e w3 ⟨rfl, rfl⟩
        go_wp2_with fail
        refine at_bodyPost (fun V hV => ?_)
        obtain ⟨q2, q3⟩ := HE V hV
        clear HE hV y0 y1 y2 y3 y4 yf
        have c0 := blk_cell (o := 0) q2 rfl
        have c1 := blk_cell (o := 1) q2 rfl
        have c2 := blk_cell (o := 2) q2 rfl
        have c3 := blk_cell (o := 3) q2 rfl
        have c4 := blk_cell (o := 4) q2 rfl
        refine bodyPost_ret (v := .tuple #[.agg #[.string ({ data := #[80, 85, 83, 72] } ++ t), .int .u64 3, .int .i64 0, .int .i64 1, .int .i64 ((o : Int) - 95)], .bool true]) (by simp [results, Tryd.results14, go_sem, c0, c1, c2, c3, c4]) rfl ⟨by rw [HV.out]; unfold OpR.val; rw [show ((o - 95 : Nat) : Int) = (o : Int) - 95 by have := ga0; omega]; rfl, q3⟩
      by_cases h1 : 128 ≤ o ∧ o ≤ 143
      · have HV : Hid (opR o = ⟨{ data := #[68, 85, 80] } ++ itoaB (o - 127), 3, (o : Int) - 127, (o : Int) - 126, 0, true⟩) := by show _ = _; unfold opR; rw [HI.out]; dsimp only; rw [if_neg h0, if_pos h1]
        have h6 := hideP (fun W => itoa_any (o - 127) (by omega) W)
        have gz := itoa_size (o - 127)
        have ec : ((o - 127 : Nat) : Int) = (o : Int) - 127 := by omega
        rw [ec] at h6
        generalize itoaB (o - 127) = t at *
        have gz1 : ¬ 9223372036854775807 < ({ data := #[68, 85, 80] } : ByteArray).size + t.size := by have : ({ data := #[68, 85, 80] } : ByteArray).size = 3 := rfl; omega
        have gz2 : ¬ 9223372036854775807 < 3 + t.size := by omega
        have w127 : IntKind.i64.wrap ((o : Int) - 127) = (o : Int) - 127 := by rw [IntKind.wrap_i64]; omega
        have w126 : IntKind.i64.wrap ((o : Int) - 126) = (o : Int) - 126 := by rw [IntKind.wrap_i64]; omega
        have gc0 : ¬ ((96 : Int) ≤ (o : Int) ∧ (o : Int) ≤ 127) := by omega
        have ga1 : (128 : Int) ≤ (o : Int) := by omega
        have gb1 : (o : Int) ≤ 143 := by omega
        clear gz ec ho h0 h1
        have y0 := blk_cell (o := 0) HB.out rfl
        have y1 := blk_cell (o := 1) HB.out rfl
        have y2 := blk_cell (o := 2) HB.out rfl
        have y3 := blk_cell (o := 3) HB.out rfl
        have y4 := blk_cell (o := 4) HB.out rfl
        have yf : ∀ i, wr.frozen? ⟨w.heap.size, i, none⟩ = false := fun i => blk_free HB.out
        have HE : ∀ V, V = ((((wr.setCell ⟨w.heap.size, 0, none⟩ (.string ({ data := #[68, 85, 80] } ++ t))).setCell ⟨w.heap.size, 1, none⟩ (.int .u64 3)).setCell ⟨w.heap.size, 2, none⟩ (.int .i64 ((o : Int) - 127))).setCell ⟨w.heap.size, 3, none⟩ (.int .i64 ((o : Int) - 126))).setCell ⟨w.heap.size, 4, none⟩ (.int .i64 0) →
            V.heap[w.heap.size]? = some (.cells #[.string ({ data := #[68, 85, 80] } ++ t), .int .u64 3, .int .i64 ((o : Int) - 127), .int .i64 ((o : Int) - 126), .int .i64 0] 24 (0, 0)) ∧ Below w.heap.size w V := by
          rintro V rfl
          refine ⟨?_, ?_⟩
          · exact blk_set (blk_set (blk_set (blk_set (blk_set HB.out _) _) _) _) _
          · iterate 5 refine Below.setCell ?_ (by dsimp only <;> omega) _
            exact HBW.out
        go_wp2_with fail
        refine HK.out _ _ ?_
        go_wp2_with fail
        refine (h6.out _).mono ?_
        rintro e w3 ⟨rfl, rfl⟩
        go_wp2_with fail
        refine at_bodyPost (fun V hV => ?_)
        obtain ⟨q2, q3⟩ := HE V hV
        clear HE hV y0 y1 y2 y3 y4 yf
        have c0 := blk_cell (o := 0) q2 rfl
        have c1 := blk_cell (o := 1) q2 rfl
        have c2 := blk_cell (o := 2) q2 rfl
        have c3 := blk_cell (o := 3) q2 rfl
        have c4 := blk_cell (o := 4) q2 rfl
        refine bodyPost_ret (v := .tuple #[.agg #[.string ({ data := #[68, 85, 80] } ++ t), .int .u64 3, .int .i64 ((o : Int) - 127), .int .i64 ((o : Int) - 126), .int .i64 0], .bool true]) (by simp [results, Tryd.results14, go_sem, c0, c1, c2, c3, c4]) rfl ⟨by rw [HV.out]; rfl, q3⟩
      by_cases h2 : 144 ≤ o ∧ o ≤ 159
      · have HV : Hid (opR o = ⟨{ data := #[83, 87, 65, 80] } ++ itoaB (o - 143), 3, (o : Int) - 142, (o : Int) - 142, 0, true⟩) := by show _ = _; unfold opR; rw [HI.out]; dsimp only; rw [if_neg h0, if_neg h1, if_pos h2]
        have h6 := hideP (fun W => itoa_any (o - 143) (by omega) W)
        have gz := itoa_size (o - 143)
        have ec : ((o - 143 : Nat) : Int) = (o : Int) - 143 := by omega
        rw [ec] at h6
        generalize itoaB (o - 143) = t at *
        have gz1 : ¬ 9223372036854775807 < ({ data := #[83, 87, 65, 80] } : ByteArray).size + t.size := by have : ({ data := #[83, 87, 65, 80] } : ByteArray).size = 4 := rfl; omega
        have gz2 : ¬ 9223372036854775807 < 4 + t.size := by omega
        have w143 : IntKind.i64.wrap ((o : Int) - 143) = (o : Int) - 143 := by rw [IntKind.wrap_i64]; omega
        have w142 : IntKind.i64.wrap ((o : Int) - 142) = (o : Int) - 142 := by rw [IntKind.wrap_i64]; omega
        have gc0 : ¬ ((96 : Int) ≤ (o : Int) ∧ (o : Int) ≤ 127) := by omega
        have gc1 : ¬ ((128 : Int) ≤ (o : Int) ∧ (o : Int) ≤ 143) := by omega
        have ga2 : (144 : Int) ≤ (o : Int) := by omega
        have gb2 : (o : Int) ≤ 159 := by omega
        clear gz ec ho h0 h1 h2
        have y0 := blk_cell (o := 0) HB.out rfl
        have y1 := blk_cell (o := 1) HB.out rfl
        have y2 := blk_cell (o := 2) HB.out rfl
        have y3 := blk_cell (o := 3) HB.out rfl
        have y4 := blk_cell (o := 4) HB.out rfl
        have yf : ∀ i, wr.frozen? ⟨w.heap.size, i, none⟩ = false := fun i => blk_free HB.out
        have HE : ∀ V, V = ((((wr.setCell ⟨w.heap.size, 0, none⟩ (.string ({ data := #[83, 87, 65, 80] } ++ t))).setCell ⟨w.heap.size, 1, none⟩ (.int .u64 3)).setCell ⟨w.heap.size, 2, none⟩ (.int .i64 ((o : Int) - 142))).setCell ⟨w.heap.size, 3, none⟩ (.int .i64 ((o : Int) - 142))).setCell ⟨w.heap.size, 4, none⟩ (.int .i64 0) →
            V.heap[w.heap.size]? = some (.cells #[.string ({ data := #[83, 87, 65, 80] } ++ t), .int .u64 3, .int .i64 ((o : Int) - 142), .int .i64 ((o : Int) - 142), .int .i64 0] 24 (0, 0)) ∧ Below w.heap.size w V := by
          rintro V rfl
          refine ⟨?_, ?_⟩
          · exact blk_set (blk_set (blk_set (blk_set (blk_set HB.out _) _) _) _) _
          · iterate 5 refine Below.setCell ?_ (by dsimp only <;> omega) _
            exact HBW.out
        go_wp2_with fail
        refine HK.out _ _ ?_
        go_wp2_with fail
        refine (h6.out _).mono ?_
        rintro e w3 ⟨rfl, rfl⟩
        go_wp2_with fail
        refine at_bodyPost (fun V hV => ?_)
        obtain ⟨q2, q3⟩ := HE V hV
        clear HE hV y0 y1 y2 y3 y4 yf
        have c0 := blk_cell (o := 0) q2 rfl
        have c1 := blk_cell (o := 1) q2 rfl
        have c2 := blk_cell (o := 2) q2 rfl
        have c3 := blk_cell (o := 3) q2 rfl
        have c4 := blk_cell (o := 4) q2 rfl
        refine bodyPost_ret (v := .tuple #[.agg #[.string ({ data := #[83, 87, 65, 80] } ++ t), .int .u64 3, .int .i64 ((o : Int) - 142), .int .i64 ((o : Int) - 142), .int .i64 0], .bool true]) (by simp [results, Tryd.results14, go_sem, c0, c1, c2, c3, c4]) rfl ⟨by rw [HV.out]; rfl, q3⟩
      by_cases h3 : 160 ≤ o ∧ o ≤ 164
      · have HV : Hid (opR o = ⟨{ data := #[76, 79, 71] } ++ itoaB (o - 160), 375, (o : Int) - 160 + 2, 0, 0, true⟩) := by show _ = _; unfold opR; rw [HI.out]; dsimp only; rw [if_neg h0, if_neg h1, if_neg h2, if_pos h3]
        have h6 := hideP (fun W => itoa_any (o - 160) (by omega) W)
        have gz := itoa_size (o - 160)
        have ec : ((o - 160 : Nat) : Int) = (o : Int) - 160 := by omega
        rw [ec] at h6
        generalize itoaB (o - 160) = t at *
        have gz1 : ¬ 9223372036854775807 < ({ data := #[76, 79, 71] } : ByteArray).size + t.size := by have : ({ data := #[76, 79, 71] } : ByteArray).size = 3 := rfl; omega
        have gz2 : ¬ 9223372036854775807 < 3 + t.size := by omega
        have w160 : IntKind.i64.wrap ((o : Int) - 160) = (o : Int) - 160 := by rw [IntKind.wrap_i64]; omega
        have w162 : IntKind.i64.wrap ((o : Int) - 160 + 2) = (o : Int) - 160 + 2 := by rw [IntKind.wrap_i64]; omega
        have gc0 : ¬ ((96 : Int) ≤ (o : Int) ∧ (o : Int) ≤ 127) := by omega
        have gc1 : ¬ ((128 : Int) ≤ (o : Int) ∧ (o : Int) ≤ 143) := by omega
        have gc2 : ¬ ((144 : Int) ≤ (o : Int) ∧ (o : Int) ≤ 159) := by omega
        have ga3 : (160 : Int) ≤ (o : Int) := by omega
        have gb3 : (o : Int) ≤ 164 := by omega
        clear gz ec ho h0 h1 h2 h3
        have y0 := blk_cell (o := 0) HB.out rfl
        have y1 := blk_cell (o := 1) HB.out rfl
        have y2 := blk_cell (o := 2) HB.out rfl
        have y3 := blk_cell (o := 3) HB.out rfl
        have y4 := blk_cell (o := 4) HB.out rfl
        have yf : ∀ i, wr.frozen? ⟨w.heap.size, i, none⟩ = false := fun i => blk_free HB.out
        have HE : ∀ V, V = ((((wr.setCell ⟨w.heap.size, 0, none⟩ (.string ({ data := #[76, 79, 71] } ++ t))).setCell ⟨w.heap.size, 1, none⟩ (.int .u64 375)).setCell ⟨w.heap.size, 2, none⟩ (.int .i64 ((o : Int) - 160 + 2))).setCell ⟨w.heap.size, 3, none⟩ (.int .i64 0)).setCell ⟨w.heap.size, 4, none⟩ (.int .i64 0) →
            V.heap[w.heap.size]? = some (.cells #[.string ({ data := #[76, 79, 71] } ++ t), .int .u64 375, .int .i64 ((o : Int) - 160 + 2), .int .i64 0, .int .i64 0] 24 (0, 0)) ∧ Below w.heap.size w V := by
          rintro V rfl
          refine ⟨?_, ?_⟩
          · exact blk_set (blk_set (blk_set (blk_set (blk_set HB.out _) _) _) _) _
          · iterate 5 refine Below.setCell ?_ (by dsimp only <;> omega) _
            exact HBW.out
        go_wp2_with fail
        refine HK.out _ _ ?_
        go_wp2_with fail
        refine (h6.out _).mono ?_
        rintro e w3 ⟨rfl, rfl⟩
        go_wp2_with fail
        refine at_bodyPost (fun V hV => ?_)
        obtain ⟨q2, q3⟩ := HE V hV
        clear HE hV y0 y1 y2 y3 y4 yf
        have c0 := blk_cell (o := 0) q2 rfl
        have c1 := blk_cell (o := 1) q2 rfl
        have c2 := blk_cell (o := 2) q2 rfl
        have c3 := blk_cell (o := 3) q2 rfl
        have c4 := blk_cell (o := 4) q2 rfl
        refine bodyPost_ret (v := .tuple #[.agg #[.string ({ data := #[76, 79, 71] } ++ t), .int .u64 375, .int .i64 ((o : Int) - 160 + 2), .int .i64 0, .int .i64 0], .bool true]) (by simp [results, Tryd.results14, go_sem, c0, c1, c2, c3, c4]) rfl ⟨by rw [HV.out]; rfl, q3⟩
      have HV : Hid (opR o = ⟨noS, 0, 0, 0, 0, false⟩) := by show _ = _; unfold opR; rw [HI.out]; dsimp only; rw [if_neg h0, if_neg h1, if_neg h2, if_neg h3]
      have gc0 : ¬ ((96 : Int) ≤ (o : Int) ∧ (o : Int) ≤ 127) := by omega
      have gc1 : ¬ ((128 : Int) ≤ (o : Int) ∧ (o : Int) ≤ 143) := by omega
      have gc2 : ¬ ((144 : Int) ≤ (o : Int) ∧ (o : Int) ≤ 159) := by omega
      have gc3 : ¬ ((160 : Int) ≤ (o : Int) ∧ (o : Int) ≤ 164) := by omega
      clear ho h0 h1 h2 h3
      have y0 := blk_cell (o := 0) HB.out rfl
      have y1 := blk_cell (o := 1) HB.out rfl
      have y2 := blk_cell (o := 2) HB.out rfl
      have y3 := blk_cell (o := 3) HB.out rfl
      have y4 := blk_cell (o := 4) HB.out rfl
      have yf : ∀ i, wr.frozen? ⟨w.heap.size, i, none⟩ = false := fun i => blk_free HB.out
      have HE : ∀ V, V = ((((wr.setCell ⟨w.heap.size, 0, none⟩ (.string { data := #[] })).setCell ⟨w.heap.size, 1, none⟩ (.int .u64 0)).setCell ⟨w.heap.size, 2, none⟩ (.int .i64 0)).setCell ⟨w.heap.size, 3, none⟩ (.int .i64 0)).setCell ⟨w.heap.size, 4, none⟩ (.int .i64 0) →
          V.heap[w.heap.size]? = some (.cells #[.string { data := #[] }, .int .u64 0, .int .i64 0, .int .i64 0, .int .i64 0] 24 (0, 0)) ∧ Below w.heap.size w V := by
        rintro V rfl
        refine ⟨?_, ?_⟩
        · exact blk_set (blk_set (blk_set (blk_set (blk_set HB.out _) _) _) _) _
        · iterate 5 refine Below.setCell ?_ (by dsimp only <;> omega) _
          exact HBW.out
      go_wp2_with fail
      refine HK.out _ _ ?_
      go_wp2_with fail
      all_goals
        refine at_bodyPost (fun V hV => ?_)
        obtain ⟨q2, q3⟩ := HE V hV
        clear HE hV y0 y1 y2 y3 y4 yf
        have c0 := blk_cell (o := 0) q2 rfl
        have c1 := blk_cell (o := 1) q2 rfl
        have c2 := blk_cell (o := 2) q2 rfl
        have c3 := blk_cell (o := 3) q2 rfl
        have c4 := blk_cell (o := 4) q2 rfl
        refine bodyPost_ret (v := .tuple #[.agg #[.string { data := #[] }, .int .u64 0, .int .i64 0, .int .i64 0, .int .i64 0], .bool false]) (by simp [results, Tryd.results14, go_sem, c0, c1, c2, c3, c4]) rfl ⟨by rw [HV.out]; rfl, q3⟩

end Go.Proofs.YtaeadndihchbnaaDoor
