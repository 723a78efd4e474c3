/-
  A scaled point added to itself.
-/
import Derived.Test.YtppijhcfodccfaaGreatCurveNoneC14
import Derived.Test.YtppijhcfodccfaaGreatCurveNoneC04
namespace Go.Proofs.YtppijhcfodccfaaGreat.P4
open Go.RowKit Go.Shelf

set_option maxHeartbeats 4000000 in
set_option maxRecDepth 100000 in
theorem double_any {w : World} {g p m : Nat} {b : K} (hG : GAt w g p m b) (x y z : K) : Calls Tryz.prog 230 #[.pointer (some ⟨g, 0, none⟩), .agg (sc m x y z)] w fun e w' => e = .returned (.agg (sc m (ksub m (kmul m (kadd m (kmul m (x) (x)) (kadd m (kmul m (x) (x)) (kmul m (x) (x)))) (kadd m (kmul m (x) (x)) (kadd m (kmul m (x) (x)) (kmul m (x) (x))))) (kadd m (kadd m (kadd m (kmul m (x) (kmul m (y) (y))) (kmul m (x) (kmul m (y) (y)))) (kadd m (kmul m (x) (kmul m (y) (y))) (kmul m (x) (kmul m (y) (y))))) (kadd m (kadd m (kmul m (x) (kmul m (y) (y))) (kmul m (x) (kmul m (y) (y)))) (kadd m (kmul m (x) (kmul m (y) (y))) (kmul m (x) (kmul m (y) (y))))))) (ksub m (kmul m (kadd m (kmul m (x) (x)) (kadd m (kmul m (x) (x)) (kmul m (x) (x)))) (ksub m (kadd m (kadd m (kmul m (x) (kmul m (y) (y))) (kmul m (x) (kmul m (y) (y)))) (kadd m (kmul m (x) (kmul m (y) (y))) (kmul m (x) (kmul m (y) (y))))) (ksub m (kmul m (kadd m (kmul m (x) (x)) (kadd m (kmul m (x) (x)) (kmul m (x) (x)))) (kadd m (kmul m (x) (x)) (kadd m (kmul m (x) (x)) (kmul m (x) (x))))) (kadd m (kadd m (kadd m (kmul m (x) (kmul m (y) (y))) (kmul m (x) (kmul m (y) (y)))) (kadd m (kmul m (x) (kmul m (y) (y))) (kmul m (x) (kmul m (y) (y))))) (kadd m (kadd m (kmul m (x) (kmul m (y) (y))) (kmul m (x) (kmul m (y) (y)))) (kadd m (kmul m (x) (kmul m (y) (y))) (kmul m (x) (kmul m (y) (y))))))))) (kadd m (kadd m (kadd m (kmul m (kmul m (y) (y)) (kmul m (y) (y))) (kmul m (kmul m (y) (y)) (kmul m (y) (y)))) (kadd m (kmul m (kmul m (y) (y)) (kmul m (y) (y))) (kmul m (kmul m (y) (y)) (kmul m (y) (y))))) (kadd m (kadd m (kmul m (kmul m (y) (y)) (kmul m (y) (y))) (kmul m (kmul m (y) (y)) (kmul m (y) (y)))) (kadd m (kmul m (kmul m (y) (y)) (kmul m (y) (y))) (kmul m (kmul m (y) (y)) (kmul m (y) (y))))))) (kadd m (kmul m (y) (z)) (kmul m (y) (z))))) ∧ Below w.heap.size w w' := by
  have hg := hG.glt
  have hp := hG.plt
  have HG9 := hideP hG
  clear hG
  go_enter Tryz.func230, Tryz.ntmps230
  refine wp_seqH (fun K0 HK0 => ?_)
  go_wp2_with fail
  refine HK0.out _ _ ?_
  clear HK0 K0
  refine at_world (fun W0 hW0 => ?_)
  have hb0 : W0.heap[w.heap.size]? = some (.cells (sc m (x) (y) (z)) 264 (0, 0)) := by
    rw [hW0]
    exact ((heap_old _ _ (by simp <;> omega)).trans (heap_new _ _))
  have hbr : ∃ C : Array Value, W0.heap[w.heap.size + 1]? = some (.cells C 264 (0, 0)) ∧ C.size = 12 := by
    rw [hW0]
    exact ⟨_, heap_new1 _ _ _, rfl⟩
  have hbw : Below w.heap.size w W0 := by
    rw [hW0]
    repeat first | exact Below.refl _ _ | (refine Below.alloc ?_ (by simp <;> omega) _)
  clear hW0
  have HG := hideP (HG9.out.below hbw)
  clear HG9
  have HBW := hideP hbw
  clear hbw
  generalize hN : w.heap.size = N at *
  clear hN
  generalize hB1 : N + 1 = B1 at *
  have o1 : N < B1 := by omega
  clear hB1
  have H0 := hideP hb0
  clear hb0
  obtain ⟨Cr, hbr, s_B1⟩ := hbr
  have Hr := hideP hbr
  clear hbr
  refine wp_seqH (fun K1 HK1 => ?_)
  refine wp_region_list ?_
  have hS := Below.refl W0.heap.size W0
  refine wpList_oper rfl (fun K hK => ?_)
  go_simp
  refine hK _ _ ?_
  clear hK K
  refine wpList_oper rfl (fun K hK => ?_)
  go_simp
  refine hK _ _ ?_
  clear hK K
  refine wpList_oper rfl (fun K hK => ?_)
  go_simp
  refine hK _ _ ?_
  clear hK K
  refine wpList_oper rfl (fun K hK => ?_)
  have hf := (HG.out.below hS).fld
  go_simp
  refine hK _ _ ?_
  clear hK K hf
  refine wpList_oper rfl (fun K hK => ?_)
  go_simp
  refine hK _ _ ?_
  clear hK K
  refine wpList_nil ?_
  refine HK1.out _ _ ?_
  clear HK1 K1
  clear hS
  refine wp_seqH (fun K1 HK1 => ?_)
  refine wp_region_list ?_
  have hS := Below.refl W0.heap.size W0
  refine wpList_oper rfl (fun K hK => ?_)
  go_simp
  refine hK _ _ ?_
  clear hK K
  refine wpList_oper rfl (fun K hK => ?_)
  go_simp
  refine hK _ _ ?_
  clear hK K
  refine wpList_oper rfl (fun K hK => ?_)
  go_simp
  refine hK _ _ ?_
  clear hK K
  refine wpList_load_midD rfl 32 (.tmp 17) 18 rfl rfl (N) (4) (ev m (y)) rfl _ (sc_y ((hS.block _ (lt_of_block H0.out)).trans H0.out)) underE rfl (infoE (ev_size _ _)) ?_
  simp only [List.set_cons_succ, List.set_cons_zero]
  refine wpList_oper rfl (fun K hK => ?_)
  go_simp
  refine hK _ _ ?_
  clear hK K
  refine wpList_oper rfl (fun K hK => ?_)
  go_simp
  refine hK _ _ ?_
  clear hK K
  refine wpList_load_midD rfl 32 (.tmp 20) 21 rfl rfl (N) (4) (ev m (y)) rfl _ (sc_y ((hS.block _ (lt_of_block H0.out)).trans H0.out)) underE rfl (infoE (ev_size _ _)) ?_
  simp only [List.set_cons_succ, List.set_cons_zero]
  refine wpList_oper rfl (fun K hK => ?_)
  refine wp_invoke2D (.tmp 15) (.tmp 18) (.tmp 21) "Mul" _ 22 rfl rfl rfl rfl rfl (cm_Mul p _ _ _) (c_Mul ((HG.out.below hS).ok) (y) (y)) ?_
  intro x4 hbc
  refine hK _ _ ?_
  clear hK K
  have hS9 := hS.trans (hbc.mono hS.size)
  clear hS hbc
  have hS := hS9
  clear hS9
  simp only [List.set_cons_succ, List.set_cons_zero]
  refine wpList_oper rfl (fun K hK => ?_)
  go_simp
  refine hK _ _ ?_
  clear hK K
  refine at_worldL (fun x6 hw9 => ?_)
  have hB5 := heap_new x4 (.cells #[.int .u64 0, .int .u64 0, .int .u64 0, .int .u64 0] 32 (0, 0))
  have lB5 := hS.size
  have hS9 := hS.alloc hS.size (.cells #[.int .u64 0, .int .u64 0, .int .u64 0, .int .u64 0] 32 (0, 0))
  rw [← hw9] at hB5 hS9
  clear hS hw9
  have hS := hS9
  clear hS9
  generalize x4.heap.size = B5 at *
  refine wpList_store_midD rfl 32 (.tmp 6) (.tmp 22) rfl rfl (B5) 0 (ev m (kmul m (y) (y))) rfl rfl (there_of hB5 (zc_size.trans (ev_size _ _).symm)) (infoE (ev_size _ _)) (ev_one _ _) ?_
  have hB59 := blk_sets (ev m (kmul m (y) (y))).toList 0 hB5
  rw [putAll_eq (zc_size.trans (ev_size _ _).symm)] at hB59
  have hB1 := But.sets (ev m (kmul m (y) (y))).toList 0 (But.refl B5 x6)
  have hSB := hS.trans (hB1.below.mono lB5)
  clear hB1 hB5 hS
  have hB5 := hB59
  have hS := hSB
  clear hB59 hSB
  generalize World.setCells x6 B5 0 (ev m (kmul m (y) (y))).toList = x7 at *
  refine wpList_nil ?_
  refine HK1.out _ _ ?_
  clear HK1 K1
  have HG9 := hideP (HG.out.below hS)
  have H09 := hideP ((hS.block _ (lt_of_block H0.out)).trans H0.out)
  have Hr9 := hideP ((hS.block _ (lt_of_block Hr.out)).trans Hr.out)
  have HBW9 := hideP (HBW.out.trans (hS.mono (Nat.le_of_lt (lt_of_block H0.out))))
  have oB5 : B1 < B5 := by have := lt_of_block Hr.out; omega
  clear hS HG HBW H0 Hr lB5
  have HG := HG9
  clear HG9
  have HBW := HBW9
  clear HBW9
  have H0 := H09
  clear H09
  have Hr := Hr9
  clear Hr9
  have HB5 := hideP hB5
  clear hB5
  as_aux_lemma =>
    refine wp_seqH (fun K1 HK1 => ?_)
    refine wp_region_list ?_
    have hS := Below.refl x7.heap.size x7
    refine wpList_oper rfl (fun K hK => ?_)
    go_simp
    refine hK _ _ ?_
    clear hK K
    refine wpList_oper rfl (fun K hK => ?_)
    go_simp
    refine hK _ _ ?_
    clear hK K
    refine wpList_oper rfl (fun K hK => ?_)
    go_simp
    refine hK _ _ ?_
    clear hK K
    refine wpList_oper rfl (fun K hK => ?_)
    go_simp
    refine hK _ _ ?_
    clear hK K
    refine wpList_oper rfl (fun K hK => ?_)
    go_simp
    refine hK _ _ ?_
    clear hK K
    refine wpList_load_midD rfl 32 (.tmp 27) 28 rfl rfl (N) (0) (ev m (x)) rfl _ (sc_x ((hS.block _ (lt_of_block H0.out)).trans H0.out)) underE rfl (infoE (ev_size _ _)) ?_
    simp only [List.set_cons_succ, List.set_cons_zero]
    refine wpList_load_midD rfl 32 (.tmp 6) 29 rfl rfl (B5) (0) (ev m (kmul m (y) (y))) rfl _ (rangeOf ((hS.block _ (lt_of_block HB5.out)).trans HB5.out)) underE rfl (infoE (ev_size _ _)) ?_
    simp only [List.set_cons_succ, List.set_cons_zero]
    refine wpList_oper rfl (fun K hK => ?_)
    refine wp_invoke2D (.tmp 25) (.tmp 28) (.tmp 29) "Mul" _ 30 rfl rfl rfl rfl rfl (cm_Mul p _ _ _) (c_Mul ((HG.out.below hS).ok) (x) (kmul m (y) (y))) ?_
    intro x8 hbc
    refine hK _ _ ?_
    clear hK K
    have hS9 := hS.trans (hbc.mono hS.size)
    clear hS hbc
    have hS := hS9
    clear hS9
    simp only [List.set_cons_succ, List.set_cons_zero]
    refine wpList_oper rfl (fun K hK => ?_)
    refine wp_call2D (.tmp 24) (.tmp 30) _ 31 rfl rfl rfl rfl (enters_of Tryz.func238 (by kernel_rfl) rfl) (twice_any (HG.out.below hS) (kmul m (x) (kmul m (y) (y)))) ?_
    intro x9 hbc
    refine hK _ _ ?_
    clear hK K
    have hS9 := hS.trans (hbc.mono hS.size)
    clear hS hbc
    have hS := hS9
    clear hS9
    simp only [List.set_cons_succ, List.set_cons_zero]
    refine wpList_oper rfl (fun K hK => ?_)
    refine wp_call2D (.tmp 23) (.tmp 31) _ 32 rfl rfl rfl rfl (enters_of Tryz.func238 (by kernel_rfl) rfl) (twice_any (HG.out.below hS) (kadd m (kmul m (x) (kmul m (y) (y))) (kmul m (x) (kmul m (y) (y))))) ?_
    intro x10 hbc
    refine hK _ _ ?_
    clear hK K
    have hS9 := hS.trans (hbc.mono hS.size)
    clear hS hbc
    have hS := hS9
    clear hS9
    simp only [List.set_cons_succ, List.set_cons_zero]
    refine wpList_oper rfl (fun K hK => ?_)
    go_simp
    refine hK _ _ ?_
    clear hK K
    refine at_worldL (fun x12 hw9 => ?_)
    have hB11 := heap_new x10 (.cells #[.int .u64 0, .int .u64 0, .int .u64 0, .int .u64 0] 32 (0, 0))
    have lB11 := hS.size
    have hS9 := hS.alloc hS.size (.cells #[.int .u64 0, .int .u64 0, .int .u64 0, .int .u64 0] 32 (0, 0))
    rw [← hw9] at hB11 hS9
    clear hS hw9
    have hS := hS9
    clear hS9
    generalize x10.heap.size = B11 at *
    refine wpList_store_midD rfl 32 (.tmp 7) (.tmp 32) rfl rfl (B11) 0 (ev m (kadd m (kadd m (kmul m (x) (kmul m (y) (y))) (kmul m (x) (kmul m (y) (y)))) (kadd m (kmul m (x) (kmul m (y) (y))) (kmul m (x) (kmul m (y) (y)))))) rfl rfl (there_of hB11 (zc_size.trans (ev_size _ _).symm)) (infoE (ev_size _ _)) (ev_one _ _) ?_
    have hB119 := blk_sets (ev m (kadd m (kadd m (kmul m (x) (kmul m (y) (y))) (kmul m (x) (kmul m (y) (y)))) (kadd m (kmul m (x) (kmul m (y) (y))) (kmul m (x) (kmul m (y) (y)))))).toList 0 hB11
    rw [putAll_eq (zc_size.trans (ev_size _ _).symm)] at hB119
    have hB1 := But.sets (ev m (kadd m (kadd m (kmul m (x) (kmul m (y) (y))) (kmul m (x) (kmul m (y) (y)))) (kadd m (kmul m (x) (kmul m (y) (y))) (kmul m (x) (kmul m (y) (y)))))).toList 0 (But.refl B11 x12)
    have hSB := hS.trans (hB1.below.mono lB11)
    clear hB1 hB11 hS
    have hB11 := hB119
    have hS := hSB
    clear hB119 hSB
    generalize World.setCells x12 B11 0 (ev m (kadd m (kadd m (kmul m (x) (kmul m (y) (y))) (kmul m (x) (kmul m (y) (y)))) (kadd m (kmul m (x) (kmul m (y) (y))) (kmul m (x) (kmul m (y) (y)))))).toList = x13 at *
    refine wpList_nil ?_
    refine HK1.out _ _ ?_
    clear HK1 K1
    have HG9 := hideP (HG.out.below hS)
    have H09 := hideP ((hS.block _ (lt_of_block H0.out)).trans H0.out)
    have Hr9 := hideP ((hS.block _ (lt_of_block Hr.out)).trans Hr.out)
    have HB59 := hideP ((hS.block _ (lt_of_block HB5.out)).trans HB5.out)
    have HBW9 := hideP (HBW.out.trans (hS.mono (Nat.le_of_lt (lt_of_block H0.out))))
    have oB11 : B5 < B11 := by have := lt_of_block HB5.out; omega
    clear hS HG HBW H0 Hr HB5 lB11
    have HG := HG9
    clear HG9
    have HBW := HBW9
    clear HBW9
    have H0 := H09
    clear H09
    have Hr := Hr9
    clear Hr9
    have HB5 := HB59
    clear HB59
    have HB11 := hideP hB11
    clear hB11
    as_aux_lemma =>
      refine wp_seqH (fun K1 HK1 => ?_)
      refine wp_region_list ?_
      have hS := Below.refl x13.heap.size x13
      refine wpList_oper rfl (fun K hK => ?_)
      go_simp
      refine hK _ _ ?_
      clear hK K
      refine wpList_oper rfl (fun K hK => ?_)
      go_simp
      refine hK _ _ ?_
      clear hK K
      refine wpList_oper rfl (fun K hK => ?_)
      go_simp
      refine hK _ _ ?_
      clear hK K
      refine wpList_load_midD rfl 32 (.tmp 35) 36 rfl rfl (N) (0) (ev m (x)) rfl _ (sc_x ((hS.block _ (lt_of_block H0.out)).trans H0.out)) underE rfl (infoE (ev_size _ _)) ?_
      simp only [List.set_cons_succ, List.set_cons_zero]
      refine wpList_oper rfl (fun K hK => ?_)
      go_simp
      refine hK _ _ ?_
      clear hK K
      refine wpList_oper rfl (fun K hK => ?_)
      go_simp
      refine hK _ _ ?_
      clear hK K
      refine wpList_load_midD rfl 32 (.tmp 38) 39 rfl rfl (N) (0) (ev m (x)) rfl _ (sc_x ((hS.block _ (lt_of_block H0.out)).trans H0.out)) underE rfl (infoE (ev_size _ _)) ?_
      simp only [List.set_cons_succ, List.set_cons_zero]
      refine wpList_oper rfl (fun K hK => ?_)
      refine wp_invoke2D (.tmp 33) (.tmp 36) (.tmp 39) "Mul" _ 40 rfl rfl rfl rfl rfl (cm_Mul p _ _ _) (c_Mul ((HG.out.below hS).ok) (x) (x)) ?_
      intro x14 hbc
      refine hK _ _ ?_
      clear hK K
      have hS9 := hS.trans (hbc.mono hS.size)
      clear hS hbc
      have hS := hS9
      clear hS9
      simp only [List.set_cons_succ, List.set_cons_zero]
      refine wpList_oper rfl (fun K hK => ?_)
      go_simp
      refine hK _ _ ?_
      clear hK K
      refine at_worldL (fun x16 hw9 => ?_)
      have hB15 := heap_new x14 (.cells #[.int .u64 0, .int .u64 0, .int .u64 0, .int .u64 0] 32 (0, 0))
      have lB15 := hS.size
      have hS9 := hS.alloc hS.size (.cells #[.int .u64 0, .int .u64 0, .int .u64 0, .int .u64 0] 32 (0, 0))
      rw [← hw9] at hB15 hS9
      clear hS hw9
      have hS := hS9
      clear hS9
      generalize x14.heap.size = B15 at *
      refine wpList_store_midD rfl 32 (.tmp 8) (.tmp 40) rfl rfl (B15) 0 (ev m (kmul m (x) (x))) rfl rfl (there_of hB15 (zc_size.trans (ev_size _ _).symm)) (infoE (ev_size _ _)) (ev_one _ _) ?_
      have hB159 := blk_sets (ev m (kmul m (x) (x))).toList 0 hB15
      rw [putAll_eq (zc_size.trans (ev_size _ _).symm)] at hB159
      have hB1 := But.sets (ev m (kmul m (x) (x))).toList 0 (But.refl B15 x16)
      have hSB := hS.trans (hB1.below.mono lB15)
      clear hB1 hB15 hS
      have hB15 := hB159
      have hS := hSB
      clear hB159 hSB
      generalize World.setCells x16 B15 0 (ev m (kmul m (x) (x))).toList = x17 at *
      refine wpList_nil ?_
      refine HK1.out _ _ ?_
      clear HK1 K1
      have HG9 := hideP (HG.out.below hS)
      have H09 := hideP ((hS.block _ (lt_of_block H0.out)).trans H0.out)
      have Hr9 := hideP ((hS.block _ (lt_of_block Hr.out)).trans Hr.out)
      have HB59 := hideP ((hS.block _ (lt_of_block HB5.out)).trans HB5.out)
      have HB119 := hideP ((hS.block _ (lt_of_block HB11.out)).trans HB11.out)
      have HBW9 := hideP (HBW.out.trans (hS.mono (Nat.le_of_lt (lt_of_block H0.out))))
      have oB15 : B11 < B15 := by have := lt_of_block HB11.out; omega
      clear hS HG HBW H0 Hr HB5 HB11 lB15
      have HG := HG9
      clear HG9
      have HBW := HBW9
      clear HBW9
      have H0 := H09
      clear H09
      have Hr := Hr9
      clear Hr9
      have HB5 := HB59
      clear HB59
      have HB11 := HB119
      clear HB119
      have HB15 := hideP hB15
      clear hB15
      as_aux_lemma =>
        refine wp_seqH (fun K1 HK1 => ?_)
        refine region_late [9] (fun V => Below x17.heap.size x17 V) (by kernel_rfl) (Below.refl _ _).drew (fun hS => ?_)
        refine anyZ_take (i := 0) (g := 12) (v := ?_) rfl (by kernel_rfl) (by kernel_rfl) (by kernel_rfl) (by kernel_rfl) (by kernel_rfl) (fun _ _ _ h => h) (Or.inl ⟨by kernel_rfl, ?_⟩) hS ?_
        rotate_left
        · intro V hV
          go_simp
          (try with_reducible rfl)
        simp only [put_list, List.set_cons_succ, List.set_cons_zero]
        refine anyZ_take (i := 1) (g := 12) (v := .agg (ev m (kmul m (x) (x)))) rfl (by kernel_rfl) (by kernel_rfl) (by kernel_rfl) (by kernel_rfl) (by kernel_rfl) (fun _ _ _ h => h) (yields_loadC (by kernel_rfl) 32 _ rfl (B15) (0) rfl (ev m (kmul m (x) (x))) _ (fun V hV => rangeOf ((hV.block _ (lt_of_block HB15.out)).trans HB15.out)) underE rfl (infoE (ev_size _ _))) hS ?_
        simp only [put_list, List.set_cons_succ, List.set_cons_zero]
        refine anyZ_take (i := 2) (g := 12) (v := ?_) rfl (by kernel_rfl) (by kernel_rfl) (by kernel_rfl) (by kernel_rfl) (by kernel_rfl) (fun _ _ _ h => h) (Or.inl ⟨by kernel_rfl, ?_⟩) hS ?_
        rotate_left
        · intro V hV
          go_simp
          (try with_reducible rfl)
        simp only [put_list, List.set_cons_succ, List.set_cons_zero]
        refine anyZ_take (i := 3) (g := 12) (v := .agg (ev m (kmul m (x) (x)))) rfl (by kernel_rfl) (by kernel_rfl) (by kernel_rfl) (by kernel_rfl) (by kernel_rfl) (fun _ _ _ h => h) (yields_loadC (by kernel_rfl) 32 _ rfl (B15) (0) rfl (ev m (kmul m (x) (x))) _ (fun V hV => rangeOf ((hV.block _ (lt_of_block HB15.out)).trans HB15.out)) underE rfl (infoE (ev_size _ _))) hS ?_
        simp only [put_list, List.set_cons_succ, List.set_cons_zero]
        refine anyZ_take (i := 5) (g := 12) (v := ?_) rfl (by kernel_rfl) (by kernel_rfl) (by kernel_rfl) (by kernel_rfl) (by kernel_rfl) (fun _ _ _ h => h) (Or.inl ⟨by kernel_rfl, ?_⟩) hS ?_
        rotate_left
        · intro V hV
          go_simp
          (try with_reducible rfl)
        simp only [put_list, List.set_cons_succ, List.set_cons_zero]
        refine anyZ_take (i := 6) (g := 12) (v := .func (.method "Add") #[ifv p] #[]) rfl (by kernel_rfl) (by kernel_rfl) (by kernel_rfl) (by kernel_rfl) (by kernel_rfl) (fun _ _ _ h => h) (yields_nilm (by kernel_rfl) (.tmp 46) rfl rfl (na_Add p)) hS ?_
        simp only [put_list, List.set_cons_succ, List.set_cons_zero]
        refine anyZ_take (i := 7) (g := 12) (v := ?_) rfl (by kernel_rfl) (by kernel_rfl) (by kernel_rfl) (by kernel_rfl) (by kernel_rfl) (fun _ _ _ h => h) (Or.inl ⟨by kernel_rfl, ?_⟩) hS ?_
        rotate_left
        · intro V hV
          go_simp
          (try with_reducible rfl)
        simp only [put_list, List.set_cons_succ, List.set_cons_zero]
        refine anyZ_one (i := 4) (by kernel_rfl) rfl (fun K hK => ?_)
        refine ite_wp (by kernel_rfl) ?_
        refine wp_call2D (.tmp 43) (.tmp 44) _ 45 rfl rfl rfl rfl (enters_of Tryz.func238 (by kernel_rfl) rfl) (twice_any (HG.out.below hS) (kmul m (x) (x))) ?_
        intro x18 hbc
        have hS9 := hS.trans (hbc.mono hS.size)
        refine hK.out _ _ (fun _ => hS9) ?_
        clear hK K hbc hS
        have hS := hS9
        clear hS9
        simp only [List.set_cons_succ, List.set_cons_zero]
        refine anyZ_one (i := 8) (by kernel_rfl) rfl (fun K hK => ?_)
        refine ite_wp (by kernel_rfl) ?_
        refine wp_invoke2D (.tmp 48) (.tmp 42) (.tmp 45) "Add" _ 49 rfl rfl rfl rfl rfl (cm_Add p _ _ _) (c_Add ((HG.out.below hS).ok) (kmul m (x) (x)) (kadd m (kmul m (x) (x)) (kmul m (x) (x)))) ?_
        intro x19 hbc
        have hS9 := hS.trans (hbc.mono hS.size)
        refine hK.out _ _ (fun _ => hS9) ?_
        clear hK K hbc hS
        have hS := hS9
        clear hS9
        simp only [List.set_cons_succ, List.set_cons_zero]
        have hQ := (KQ.start HB15.out (ev_size _ _)).call hS
        refine anyZ_one (i := 9) (by kernel_rfl) rfl (fun K hK => ?_)
        refine ite_wp (by kernel_rfl) ?_
        refine wp_store_midN 32 (.tmp 8) (.tmp 49) rfl rfl (B15) 0 (ev m (kadd m (kmul m (x) (x)) (kadd m (kmul m (x) (x)) (kmul m (x) (x))))) rfl rfl (hQ.there (ev_size _ _)) (infoE (ev_size _ _)) (ev_one _ _) ?_
        have g1 := hQ.put (C := ev m (kadd m (kmul m (x) (x)) (kadd m (kmul m (x) (x)) (kmul m (x) (x))))) (ev_size _ _)
        have hS9 := hQ.store (C := ev m (kadd m (kmul m (x) (x)) (kadd m (kmul m (x) (x)) (kmul m (x) (x))))) (ev_size _ _)
        clear hS hQ
        have hS := hS9
        clear hS9
        generalize World.setCells _ (B15) 0 (ev m (kadd m (kmul m (x) (x)) (kadd m (kmul m (x) (x)) (kmul m (x) (x))))).toList = x20 at g1 hS ⊢
        refine hK.out _ _ (fun h => absurd (by decide) h) ?_
        clear hK K
        refine anyZ_done (by kernel_rfl) ?_ _
        (try simp only [put_none])
        refine HK1.out _ _ ?_
        clear HK1 K1
        have HG9 := hideP (HG.out.kq hS (by omega) (by omega))
        have H09 := hideP (hS.box H0.out (by omega))
        have Hr9 := hideP (hS.box Hr.out (by omega))
        have HB59 := hideP (hS.box HB5.out (by omega))
        have HB119 := hideP (hS.box HB11.out (by omega))
        have HBW9 := hideP (HBW.out.trans (hS.below.mono (by omega)))
        have HB159 := hideP g1
        clear hS g1 HG HBW H0 Hr HB5 HB11 HB15
        have HG := HG9
        clear HG9
        have HBW := HBW9
        clear HBW9
        have H0 := H09
        clear H09
        have Hr := Hr9
        clear Hr9
        have HB5 := HB59
        clear HB59
        have HB11 := HB119
        clear HB119
        have HB15 := HB159
        clear HB159
        as_aux_lemma =>
          refine wp_seqH (fun K1 HK1 => ?_)
          refine wp_region_heldS (S := fun V => Below x20.heap.size x20 V) (by kernel_rfl) (Below.refl _ _).drew (fun hS => ?_)
          refine wpAnyH_takeL (i := 0) (v := ?_) rfl (by kernel_rfl) (by kernel_rfl) (by kernel_rfl) (fun _ _ _ h => h) (Or.inl ⟨by kernel_rfl, ?_⟩) hS ?_
          rotate_left
          · intro V hV
            go_simp
            (try with_reducible rfl)
          simp only [put_list, List.set_cons_succ, List.set_cons_zero]
          refine wpAnyH_takeL (i := 1) (v := ?_) rfl (by kernel_rfl) (by kernel_rfl) (by kernel_rfl) (fun _ _ _ h => h) (Or.inl ⟨by kernel_rfl, ?_⟩) hS ?_
          rotate_left
          · intro V hV
            go_simp
            (try with_reducible rfl)
          simp only [put_list, List.set_cons_succ, List.set_cons_zero]
          refine wpAnyH_takeL (i := 2) (v := .agg (ev m (kadd m (kmul m (x) (x)) (kadd m (kmul m (x) (x)) (kmul m (x) (x)))))) rfl (by kernel_rfl) (by kernel_rfl) (by kernel_rfl) (fun _ _ _ h => h) (yields_loadC (by kernel_rfl) 32 _ rfl (B15) (0) rfl (ev m (kadd m (kmul m (x) (x)) (kadd m (kmul m (x) (x)) (kmul m (x) (x))))) _ (fun V hV => rangeOf ((hV.block _ (lt_of_block HB15.out)).trans HB15.out)) underE rfl (infoE (ev_size _ _))) hS ?_
          simp only [put_list, List.set_cons_succ, List.set_cons_zero]
          refine wpAnyH_takeL (i := 3) (v := .agg (ev m (kadd m (kmul m (x) (x)) (kadd m (kmul m (x) (x)) (kmul m (x) (x)))))) rfl (by kernel_rfl) (by kernel_rfl) (by kernel_rfl) (fun _ _ _ h => h) (yields_loadC (by kernel_rfl) 32 _ rfl (B15) (0) rfl (ev m (kadd m (kmul m (x) (x)) (kadd m (kmul m (x) (x)) (kmul m (x) (x))))) _ (fun V hV => rangeOf ((hV.block _ (lt_of_block HB15.out)).trans HB15.out)) underE rfl (infoE (ev_size _ _))) hS ?_
          simp only [put_list, List.set_cons_succ, List.set_cons_zero]
          refine wpAnyH_takeL (i := 5) (v := ?_) rfl (by kernel_rfl) (by kernel_rfl) (by kernel_rfl) (fun _ _ _ h => h) (Or.inl ⟨by kernel_rfl, ?_⟩) hS ?_
          rotate_left
          · intro V hV
            go_simp
            (try with_reducible rfl)
          simp only [put_list, List.set_cons_succ, List.set_cons_zero]
          refine wpAnyH_takeL (i := 6) (v := .agg (ev m (kadd m (kadd m (kmul m (x) (kmul m (y) (y))) (kmul m (x) (kmul m (y) (y)))) (kadd m (kmul m (x) (kmul m (y) (y))) (kmul m (x) (kmul m (y) (y))))))) rfl (by kernel_rfl) (by kernel_rfl) (by kernel_rfl) (fun _ _ _ h => h) (yields_loadC (by kernel_rfl) 32 _ rfl (B11) (0) rfl (ev m (kadd m (kadd m (kmul m (x) (kmul m (y) (y))) (kmul m (x) (kmul m (y) (y)))) (kadd m (kmul m (x) (kmul m (y) (y))) (kmul m (x) (kmul m (y) (y)))))) _ (fun V hV => rangeOf ((hV.block _ (lt_of_block HB11.out)).trans HB11.out)) underE rfl (infoE (ev_size _ _))) hS ?_
          simp only [put_list, List.set_cons_succ, List.set_cons_zero]
          refine wpAnyH_takeL (i := 8) (v := ?_) rfl (by kernel_rfl) (by kernel_rfl) (by kernel_rfl) (fun _ _ _ h => h) (Or.inl ⟨by kernel_rfl, ?_⟩) hS ?_
          rotate_left
          · intro V hV
            go_simp
            (try with_reducible rfl)
          simp only [put_list, List.set_cons_succ, List.set_cons_zero]
          refine wpAnyH_takeL (i := 9) (v := .func (.method "Sub") #[ifv p] #[]) rfl (by kernel_rfl) (by kernel_rfl) (by kernel_rfl) (fun _ _ _ h => h) (yields_nilm (by kernel_rfl) (.tmp 58) rfl rfl (na_Sub p)) hS ?_
          simp only [put_list, List.set_cons_succ, List.set_cons_zero]
          refine wpAnyH_takeL (i := 10) (v := ?_) rfl (by kernel_rfl) (by kernel_rfl) (by kernel_rfl) (fun _ _ _ h => h) (Or.inl ⟨by kernel_rfl, ?_⟩) hS ?_
          rotate_left
          · intro V hV
            go_simp
            (try with_reducible rfl)
          simp only [put_list, List.set_cons_succ, List.set_cons_zero]

          refine regionM (r := 1) (fun b => .pointer (some ⟨b, 0, none⟩)) 3 (fun k => match k with | 0 => 4 | 1 => 7 | _ => 11) (fun k => match k with | 0 => 54 | 1 => 57 | _ => 61) (fun k => match k with | 0 => .agg (ev m (kmul m (kadd m (kmul m (x) (x)) (kadd m (kmul m (x) (x)) (kmul m (x) (x)))) (kadd m (kmul m (x) (x)) (kadd m (kmul m (x) (x)) (kmul m (x) (x)))))) | 1 => .agg (ev m (kadd m (kadd m (kadd m (kmul m (x) (kmul m (y) (y))) (kmul m (x) (kmul m (y) (y)))) (kadd m (kmul m (x) (kmul m (y) (y))) (kmul m (x) (kmul m (y) (y))))) (kadd m (kadd m (kmul m (x) (kmul m (y) (y))) (kmul m (x) (kmul m (y) (y)))) (kadd m (kmul m (x) (kmul m (y) (y))) (kmul m (x) (kmul m (y) (y))))))) | _ => .agg (ev m (ksub m (kmul m (kadd m (kmul m (x) (x)) (kadd m (kmul m (x) (x)) (kmul m (x) (x)))) (kadd m (kmul m (x) (x)) (kadd m (kmul m (x) (x)) (kmul m (x) (x))))) (kadd m (kadd m (kadd m (kmul m (x) (kmul m (y) (y))) (kmul m (x) (kmul m (y) (y)))) (kadd m (kmul m (x) (kmul m (y) (y))) (kmul m (x) (kmul m (y) (y))))) (kadd m (kadd m (kmul m (x) (kmul m (y) (y))) (kmul m (x) (kmul m (y) (y)))) (kadd m (kmul m (x) (kmul m (y) (y))) (kmul m (x) (kmul m (y) (y))))))))) (fun i p => #[true, true, true, true, decide (0 < i), true, true, decide (1 < i), true, true, true, decide (2 < i), p, false] : Nat → Bool → Array Bool) #[.int .u64 0, .int .u64 0, .int .u64 0, .int .u64 0] 32 12 9 (by kernel_rfl) (by decide) (by kernel_rfl) hS ?_ ?_ ?_
          · intro i hi T w2 K hW2 hT hK
            match i, hi with
            | 0, _ =>
              have t51 : T[51]? = some (ifv p) := hT 51 (by decide)
              have t52 : T[52]? = some (.agg (ev m (kadd m (kmul m (x) (x)) (kadd m (kmul m (x) (x)) (kmul m (x) (x)))))) := hT 52 (by decide)
              have t53 : T[53]? = some (.agg (ev m (kadd m (kmul m (x) (x)) (kadd m (kmul m (x) (x)) (kmul m (x) (x)))))) := hT 53 (by decide)
              refine wpOp_stepT (i := 4) rfl (fun K' hK' => ?_)
              refine ite_wp (by kernel_rfl) ?_
              refine wp_invoke2D (.tmp 51) (.tmp 52) (.tmp 53) "Mul" _ 54 rfl rfl (eval_get t51) (eval_get t52) (eval_get t53) (cm_Mul p _ _ _) (c_Mul ((HG.out.below hW2).ok) (kadd m (kmul m (x) (x)) (kadd m (kmul m (x) (x)) (kmul m (x) (x)))) (kadd m (kmul m (x) (x)) (kadd m (kmul m (x) (x)) (kmul m (x) (x))))) ?_
              intro w3 hb
              exact hK' _ _ (hK w3 hb)
            | 1, _ =>
              have t55 : T[55]? = some (.pointer (some ⟨g, 0, none⟩)) := hT 55 (by decide)
              have t56 : T[56]? = some (.agg (ev m (kadd m (kadd m (kmul m (x) (kmul m (y) (y))) (kmul m (x) (kmul m (y) (y)))) (kadd m (kmul m (x) (kmul m (y) (y))) (kmul m (x) (kmul m (y) (y))))))) := hT 56 (by decide)
              refine wpOp_stepT (i := 7) rfl (fun K' hK' => ?_)
              refine ite_wp (by kernel_rfl) ?_
              refine wp_call2D (.tmp 55) (.tmp 56) _ 57 rfl rfl (eval_get t55) (eval_get t56) (enters_of Tryz.func238 (by kernel_rfl) rfl) (twice_any (HG.out.below hW2) (kadd m (kadd m (kmul m (x) (kmul m (y) (y))) (kmul m (x) (kmul m (y) (y)))) (kadd m (kmul m (x) (kmul m (y) (y))) (kmul m (x) (kmul m (y) (y)))))) ?_
              intro w3 hb
              exact hK' _ _ (hK w3 hb)
            | 2, _ =>
              have t60 : T[60]? = some (ifv p) := hT 60 (by decide)
              have t54 : T[54]? = some (.agg (ev m (kmul m (kadd m (kmul m (x) (x)) (kadd m (kmul m (x) (x)) (kmul m (x) (x)))) (kadd m (kmul m (x) (x)) (kadd m (kmul m (x) (x)) (kmul m (x) (x))))))) := hT 54 (by decide)
              have t57 : T[57]? = some (.agg (ev m (kadd m (kadd m (kadd m (kmul m (x) (kmul m (y) (y))) (kmul m (x) (kmul m (y) (y)))) (kadd m (kmul m (x) (kmul m (y) (y))) (kmul m (x) (kmul m (y) (y))))) (kadd m (kadd m (kmul m (x) (kmul m (y) (y))) (kmul m (x) (kmul m (y) (y)))) (kadd m (kmul m (x) (kmul m (y) (y))) (kmul m (x) (kmul m (y) (y)))))))) := hT 57 (by decide)
              refine wpOp_stepT (i := 11) rfl (fun K' hK' => ?_)
              refine ite_wp (by kernel_rfl) ?_
              refine wp_invoke2D (.tmp 60) (.tmp 54) (.tmp 57) "Sub" _ 61 rfl rfl (eval_get t60) (eval_get t54) (eval_get t57) (cm_Sub p _ _ _) (c_Sub ((HG.out.below hW2).ok) (kmul m (kadd m (kmul m (x) (x)) (kadd m (kmul m (x) (x)) (kmul m (x) (x)))) (kadd m (kmul m (x) (x)) (kadd m (kmul m (x) (x)) (kmul m (x) (x))))) (kadd m (kadd m (kadd m (kmul m (x) (kmul m (y) (y))) (kmul m (x) (kmul m (y) (y)))) (kadd m (kmul m (x) (kmul m (y) (y))) (kmul m (x) (kmul m (y) (y))))) (kadd m (kadd m (kmul m (x) (kmul m (y) (y))) (kmul m (x) (kmul m (y) (y)))) (kadd m (kmul m (x) (kmul m (y) (y))) (kmul m (x) (kmul m (y) (y))))))) ?_
              intro w3 hb
              exact hK' _ _ (hK w3 hb)
            | k' + 3, h => exact absurd h (by omega)
          · intro T w2 K hT hK
            refine wpOp_stepT rfl (fun K' hK' => ?_)
            have HK' := hideP hK'
            have HK9 := hideP hK
            clear hK hK'
            go_simp
            exact HK'.out _ _ HK9.out
          intro x22 B21 hS lB21 hB21
          simp only [TC, List.set_cons_succ, List.set_cons_zero]
          refine wpAnyH_ready (rs := [13]) (by kernel_rfl) (by simp) (AllReadyH.cons rfl (fun K hK => ?_) AllReadyH.nil)
          refine ite_wp (by kernel_rfl) ?_
          refine wp_store_midN 32 (.tmp 9) (.tmp 61) rfl rfl (B21) 0 (ev m (ksub m (kmul m (kadd m (kmul m (x) (x)) (kadd m (kmul m (x) (x)) (kmul m (x) (x)))) (kadd m (kmul m (x) (x)) (kadd m (kmul m (x) (x)) (kmul m (x) (x))))) (kadd m (kadd m (kadd m (kmul m (x) (kmul m (y) (y))) (kmul m (x) (kmul m (y) (y)))) (kadd m (kmul m (x) (kmul m (y) (y))) (kmul m (x) (kmul m (y) (y))))) (kadd m (kadd m (kmul m (x) (kmul m (y) (y))) (kmul m (x) (kmul m (y) (y)))) (kadd m (kmul m (x) (kmul m (y) (y))) (kmul m (x) (kmul m (y) (y)))))))) rfl rfl (there_of hB21 (zc_size.trans (ev_size _ _).symm)) (infoE (ev_size _ _)) (ev_one _ _) ?_
          have hB219 := blk_sets (ev m (ksub m (kmul m (kadd m (kmul m (x) (x)) (kadd m (kmul m (x) (x)) (kmul m (x) (x)))) (kadd m (kmul m (x) (x)) (kadd m (kmul m (x) (x)) (kmul m (x) (x))))) (kadd m (kadd m (kadd m (kmul m (x) (kmul m (y) (y))) (kmul m (x) (kmul m (y) (y)))) (kadd m (kmul m (x) (kmul m (y) (y))) (kmul m (x) (kmul m (y) (y))))) (kadd m (kadd m (kmul m (x) (kmul m (y) (y))) (kmul m (x) (kmul m (y) (y)))) (kadd m (kmul m (x) (kmul m (y) (y))) (kmul m (x) (kmul m (y) (y)))))))).toList 0 hB21
          rw [putAll_eq (zc_size.trans (ev_size _ _).symm)] at hB219
          have hB1 := But.sets (ev m (ksub m (kmul m (kadd m (kmul m (x) (x)) (kadd m (kmul m (x) (x)) (kmul m (x) (x)))) (kadd m (kmul m (x) (x)) (kadd m (kmul m (x) (x)) (kmul m (x) (x))))) (kadd m (kadd m (kadd m (kmul m (x) (kmul m (y) (y))) (kmul m (x) (kmul m (y) (y)))) (kadd m (kmul m (x) (kmul m (y) (y))) (kmul m (x) (kmul m (y) (y))))) (kadd m (kadd m (kmul m (x) (kmul m (y) (y))) (kmul m (x) (kmul m (y) (y)))) (kadd m (kmul m (x) (kmul m (y) (y))) (kmul m (x) (kmul m (y) (y)))))))).toList 0 (But.refl B21 x22)
          have hSB := hS.trans (hB1.below.mono lB21)
          clear hB1 hB21
          have hB21 := hB219
          clear hB219
          generalize World.setCells x22 B21 0 (ev m (ksub m (kmul m (kadd m (kmul m (x) (x)) (kadd m (kmul m (x) (x)) (kmul m (x) (x)))) (kadd m (kmul m (x) (x)) (kadd m (kmul m (x) (x)) (kmul m (x) (x))))) (kadd m (kadd m (kadd m (kmul m (x) (kmul m (y) (y))) (kmul m (x) (kmul m (y) (y)))) (kadd m (kmul m (x) (kmul m (y) (y))) (kmul m (x) (kmul m (y) (y))))) (kadd m (kadd m (kmul m (x) (kmul m (y) (y))) (kmul m (x) (kmul m (y) (y)))) (kadd m (kmul m (x) (kmul m (y) (y))) (kmul m (x) (kmul m (y) (y)))))))).toList = x23 at *
          refine hK.out _ _ hSB (fun hS => ?_)
          clear hK K hSB
          refine wpAnyH_done (by kernel_rfl) ?_ _
          (try simp only [put_none])
          refine HK1.out _ _ ?_
          clear HK1 K1
          have HG9 := hideP (HG.out.below hS)
          have H09 := hideP ((hS.block _ (lt_of_block H0.out)).trans H0.out)
          have Hr9 := hideP ((hS.block _ (lt_of_block Hr.out)).trans Hr.out)
          have HB59 := hideP ((hS.block _ (lt_of_block HB5.out)).trans HB5.out)
          have HB119 := hideP ((hS.block _ (lt_of_block HB11.out)).trans HB11.out)
          have HB159 := hideP ((hS.block _ (lt_of_block HB15.out)).trans HB15.out)
          have HBW9 := hideP (HBW.out.trans (hS.mono (Nat.le_of_lt (lt_of_block H0.out))))
          have oB21 : B15 < B21 := by have := lt_of_block HB15.out; omega
          clear hS HG HBW H0 Hr HB5 HB11 HB15 lB21
          have HG := HG9
          clear HG9
          have HBW := HBW9
          clear HBW9
          have H0 := H09
          clear H09
          have Hr := Hr9
          clear Hr9
          have HB5 := HB59
          clear HB59
          have HB11 := HB119
          clear HB119
          have HB15 := HB159
          clear HB159
          have HB21 := hideP hB21
          clear hB21
          as_aux_lemma =>
            refine wp_seqH (fun K1 HK1 => ?_)
            refine wp_region_heldS (S := fun V => Below x23.heap.size x23 V) (by kernel_rfl) (Below.refl _ _).drew (fun hS => ?_)
            refine wpAnyH_takeL (i := 0) (v := ?_) rfl (by kernel_rfl) (by kernel_rfl) (by kernel_rfl) (fun _ _ _ h => h) (Or.inl ⟨by kernel_rfl, ?_⟩) hS ?_
            rotate_left
            · intro V hV
              go_simp
              (try with_reducible rfl)
            simp only [put_list, List.set_cons_succ, List.set_cons_zero]
            refine wpAnyH_takeL (i := 1) (v := ?_) rfl (by kernel_rfl) (by kernel_rfl) (by kernel_rfl) (fun _ _ _ h => h) (Or.inl ⟨by kernel_rfl, ?_⟩) hS ?_
            rotate_left
            · intro V hV
              go_simp
              (try with_reducible rfl)
            simp only [put_list, List.set_cons_succ, List.set_cons_zero]
            refine wpAnyH_takeL (i := 2) (v := .agg (ev m (kadd m (kmul m (x) (x)) (kadd m (kmul m (x) (x)) (kmul m (x) (x)))))) rfl (by kernel_rfl) (by kernel_rfl) (by kernel_rfl) (fun _ _ _ h => h) (yields_loadC (by kernel_rfl) 32 _ rfl (B15) (0) rfl (ev m (kadd m (kmul m (x) (x)) (kadd m (kmul m (x) (x)) (kmul m (x) (x))))) _ (fun V hV => rangeOf ((hV.block _ (lt_of_block HB15.out)).trans HB15.out)) underE rfl (infoE (ev_size _ _))) hS ?_
            simp only [put_list, List.set_cons_succ, List.set_cons_zero]
            refine wpAnyH_takeL (i := 3) (v := ?_) rfl (by kernel_rfl) (by kernel_rfl) (by kernel_rfl) (fun _ _ _ h => h) (Or.inl ⟨by kernel_rfl, ?_⟩) hS ?_
            rotate_left
            · intro V hV
              go_simp
              (try with_reducible rfl)
            simp only [put_list, List.set_cons_succ, List.set_cons_zero]
            refine wpAnyH_takeL (i := 4) (v := .agg (ev m (kadd m (kadd m (kmul m (x) (kmul m (y) (y))) (kmul m (x) (kmul m (y) (y)))) (kadd m (kmul m (x) (kmul m (y) (y))) (kmul m (x) (kmul m (y) (y))))))) rfl (by kernel_rfl) (by kernel_rfl) (by kernel_rfl) (fun _ _ _ h => h) (yields_loadC (by kernel_rfl) 32 _ rfl (B11) (0) rfl (ev m (kadd m (kadd m (kmul m (x) (kmul m (y) (y))) (kmul m (x) (kmul m (y) (y)))) (kadd m (kmul m (x) (kmul m (y) (y))) (kmul m (x) (kmul m (y) (y)))))) _ (fun V hV => rangeOf ((hV.block _ (lt_of_block HB11.out)).trans HB11.out)) underE rfl (infoE (ev_size _ _))) hS ?_
            simp only [put_list, List.set_cons_succ, List.set_cons_zero]
            refine wpAnyH_takeL (i := 5) (v := .agg (ev m (ksub m (kmul m (kadd m (kmul m (x) (x)) (kadd m (kmul m (x) (x)) (kmul m (x) (x)))) (kadd m (kmul m (x) (x)) (kadd m (kmul m (x) (x)) (kmul m (x) (x))))) (kadd m (kadd m (kadd m (kmul m (x) (kmul m (y) (y))) (kmul m (x) (kmul m (y) (y)))) (kadd m (kmul m (x) (kmul m (y) (y))) (kmul m (x) (kmul m (y) (y))))) (kadd m (kadd m (kmul m (x) (kmul m (y) (y))) (kmul m (x) (kmul m (y) (y)))) (kadd m (kmul m (x) (kmul m (y) (y))) (kmul m (x) (kmul m (y) (y))))))))) rfl (by kernel_rfl) (by kernel_rfl) (by kernel_rfl) (fun _ _ _ h => h) (yields_loadC (by kernel_rfl) 32 _ rfl (B21) (0) rfl (ev m (ksub m (kmul m (kadd m (kmul m (x) (x)) (kadd m (kmul m (x) (x)) (kmul m (x) (x)))) (kadd m (kmul m (x) (x)) (kadd m (kmul m (x) (x)) (kmul m (x) (x))))) (kadd m (kadd m (kadd m (kmul m (x) (kmul m (y) (y))) (kmul m (x) (kmul m (y) (y)))) (kadd m (kmul m (x) (kmul m (y) (y))) (kmul m (x) (kmul m (y) (y))))) (kadd m (kadd m (kmul m (x) (kmul m (y) (y))) (kmul m (x) (kmul m (y) (y)))) (kadd m (kmul m (x) (kmul m (y) (y))) (kmul m (x) (kmul m (y) (y)))))))) _ (fun V hV => rangeOf ((hV.block _ (lt_of_block HB21.out)).trans HB21.out)) underE rfl (infoE (ev_size _ _))) hS ?_
            simp only [put_list, List.set_cons_succ, List.set_cons_zero]
            refine wpAnyH_takeL (i := 7) (v := ?_) rfl (by kernel_rfl) (by kernel_rfl) (by kernel_rfl) (fun _ _ _ h => h) (Or.inl ⟨by kernel_rfl, ?_⟩) hS ?_
            rotate_left
            · intro V hV
              go_simp
              (try with_reducible rfl)
            simp only [put_list, List.set_cons_succ, List.set_cons_zero]
            refine wpAnyH_takeL (i := 8) (v := .func (.method "Mul") #[ifv p] #[]) rfl (by kernel_rfl) (by kernel_rfl) (by kernel_rfl) (fun _ _ _ h => h) (yields_nilm (by kernel_rfl) (.tmp 69) rfl rfl (na_Mul p)) hS ?_
            simp only [put_list, List.set_cons_succ, List.set_cons_zero]
            refine wpAnyH_takeL (i := 9) (v := ?_) rfl (by kernel_rfl) (by kernel_rfl) (by kernel_rfl) (fun _ _ _ h => h) (Or.inl ⟨by kernel_rfl, ?_⟩) hS ?_
            rotate_left
            · intro V hV
              go_simp
              (try with_reducible rfl)
            simp only [put_list, List.set_cons_succ, List.set_cons_zero]
            refine wpAnyH_takeL (i := 11) (v := ?_) rfl (by kernel_rfl) (by kernel_rfl) (by kernel_rfl) (fun _ _ _ h => h) (Or.inl ⟨by kernel_rfl, ?_⟩) hS ?_
            rotate_left
            · intro V hV
              go_simp
              (try with_reducible rfl)
            simp only [put_list, List.set_cons_succ, List.set_cons_zero]
            refine wpAnyH_takeL (i := 12) (v := ?_) rfl (by kernel_rfl) (by kernel_rfl) (by kernel_rfl) (fun _ _ _ h => h) (Or.inl ⟨by kernel_rfl, ?_⟩) hS ?_
            rotate_left
            · intro V hV
              go_simp
              (try with_reducible rfl)
            simp only [put_list, List.set_cons_succ, List.set_cons_zero]
            refine wpAnyH_takeL (i := 13) (v := ?_) rfl (by kernel_rfl) (by kernel_rfl) (by kernel_rfl) (fun _ _ _ h => h) (Or.inl ⟨by kernel_rfl, ?_⟩) hS ?_
            rotate_left
            · intro V hV
              go_simp
              (try with_reducible rfl)
            simp only [put_list, List.set_cons_succ, List.set_cons_zero]
            refine wpAnyH_takeL (i := 14) (v := ?_) rfl (by kernel_rfl) (by kernel_rfl) (by kernel_rfl) (fun _ _ _ h => h) (Or.inl ⟨by kernel_rfl, ?_⟩) hS ?_
            rotate_left
            · intro V hV
              go_simp
              (try with_reducible rfl)
            simp only [put_list, List.set_cons_succ, List.set_cons_zero]
            refine wpAnyH_takeL (i := 15) (v := .agg (ev m (kmul m (y) (y)))) rfl (by kernel_rfl) (by kernel_rfl) (by kernel_rfl) (fun _ _ _ h => h) (yields_loadC (by kernel_rfl) 32 _ rfl (B5) (0) rfl (ev m (kmul m (y) (y))) _ (fun V hV => rangeOf ((hV.block _ (lt_of_block HB5.out)).trans HB5.out)) underE rfl (infoE (ev_size _ _))) hS ?_
            simp only [put_list, List.set_cons_succ, List.set_cons_zero]
            refine wpAnyH_takeL (i := 16) (v := .agg (ev m (kmul m (y) (y)))) rfl (by kernel_rfl) (by kernel_rfl) (by kernel_rfl) (fun _ _ _ h => h) (yields_loadC (by kernel_rfl) 32 _ rfl (B5) (0) rfl (ev m (kmul m (y) (y))) _ (fun V hV => rangeOf ((hV.block _ (lt_of_block HB5.out)).trans HB5.out)) underE rfl (infoE (ev_size _ _))) hS ?_
            simp only [put_list, List.set_cons_succ, List.set_cons_zero]
            refine wpAnyH_takeL (i := 21) (v := ?_) rfl (by kernel_rfl) (by kernel_rfl) (by kernel_rfl) (fun _ _ _ h => h) (Or.inl ⟨by kernel_rfl, ?_⟩) hS ?_
            rotate_left
            · intro V hV
              go_simp
              (try with_reducible rfl)
            simp only [put_list, List.set_cons_succ, List.set_cons_zero]
            refine wpAnyH_takeL (i := 22) (v := .func (.method "Sub") #[ifv p] #[]) rfl (by kernel_rfl) (by kernel_rfl) (by kernel_rfl) (fun _ _ _ h => h) (yields_nilm (by kernel_rfl) (.tmp 83) rfl rfl (na_Sub p)) hS ?_
            simp only [put_list, List.set_cons_succ, List.set_cons_zero]
            refine wpAnyH_takeL (i := 23) (v := ?_) rfl (by kernel_rfl) (by kernel_rfl) (by kernel_rfl) (fun _ _ _ h => h) (Or.inl ⟨by kernel_rfl, ?_⟩) hS ?_
            rotate_left
            · intro V hV
              go_simp
              (try with_reducible rfl)
            simp only [put_list, List.set_cons_succ, List.set_cons_zero]

            refine regionM (r := 1) (fun b => .pointer (some ⟨b, 0, none⟩)) 7 (fun k => match k with | 0 => 6 | 1 => 10 | 2 => 17 | 3 => 18 | 4 => 19 | 5 => 20 | _ => 24) (fun k => match k with | 0 => 68 | 1 => 72 | 2 => 79 | 3 => 80 | 4 => 81 | 5 => 82 | _ => 86) (fun k => match k with | 0 => .agg (ev m (ksub m (kadd m (kadd m (kmul m (x) (kmul m (y) (y))) (kmul m (x) (kmul m (y) (y)))) (kadd m (kmul m (x) (kmul m (y) (y))) (kmul m (x) (kmul m (y) (y))))) (ksub m (kmul m (kadd m (kmul m (x) (x)) (kadd m (kmul m (x) (x)) (kmul m (x) (x)))) (kadd m (kmul m (x) (x)) (kadd m (kmul m (x) (x)) (kmul m (x) (x))))) (kadd m (kadd m (kadd m (kmul m (x) (kmul m (y) (y))) (kmul m (x) (kmul m (y) (y)))) (kadd m (kmul m (x) (kmul m (y) (y))) (kmul m (x) (kmul m (y) (y))))) (kadd m (kadd m (kmul m (x) (kmul m (y) (y))) (kmul m (x) (kmul m (y) (y)))) (kadd m (kmul m (x) (kmul m (y) (y))) (kmul m (x) (kmul m (y) (y))))))))) | 1 => .agg (ev m (kmul m (kadd m (kmul m (x) (x)) (kadd m (kmul m (x) (x)) (kmul m (x) (x)))) (ksub m (kadd m (kadd m (kmul m (x) (kmul m (y) (y))) (kmul m (x) (kmul m (y) (y)))) (kadd m (kmul m (x) (kmul m (y) (y))) (kmul m (x) (kmul m (y) (y))))) (ksub m (kmul m (kadd m (kmul m (x) (x)) (kadd m (kmul m (x) (x)) (kmul m (x) (x)))) (kadd m (kmul m (x) (x)) (kadd m (kmul m (x) (x)) (kmul m (x) (x))))) (kadd m (kadd m (kadd m (kmul m (x) (kmul m (y) (y))) (kmul m (x) (kmul m (y) (y)))) (kadd m (kmul m (x) (kmul m (y) (y))) (kmul m (x) (kmul m (y) (y))))) (kadd m (kadd m (kmul m (x) (kmul m (y) (y))) (kmul m (x) (kmul m (y) (y)))) (kadd m (kmul m (x) (kmul m (y) (y))) (kmul m (x) (kmul m (y) (y)))))))))) | 2 => .agg (ev m (kmul m (kmul m (y) (y)) (kmul m (y) (y)))) | 3 => .agg (ev m (kadd m (kmul m (kmul m (y) (y)) (kmul m (y) (y))) (kmul m (kmul m (y) (y)) (kmul m (y) (y))))) | 4 => .agg (ev m (kadd m (kadd m (kmul m (kmul m (y) (y)) (kmul m (y) (y))) (kmul m (kmul m (y) (y)) (kmul m (y) (y)))) (kadd m (kmul m (kmul m (y) (y)) (kmul m (y) (y))) (kmul m (kmul m (y) (y)) (kmul m (y) (y)))))) | 5 => .agg (ev m (kadd m (kadd m (kadd m (kmul m (kmul m (y) (y)) (kmul m (y) (y))) (kmul m (kmul m (y) (y)) (kmul m (y) (y)))) (kadd m (kmul m (kmul m (y) (y)) (kmul m (y) (y))) (kmul m (kmul m (y) (y)) (kmul m (y) (y))))) (kadd m (kadd m (kmul m (kmul m (y) (y)) (kmul m (y) (y))) (kmul m (kmul m (y) (y)) (kmul m (y) (y)))) (kadd m (kmul m (kmul m (y) (y)) (kmul m (y) (y))) (kmul m (kmul m (y) (y)) (kmul m (y) (y))))))) | _ => .agg (ev m (ksub m (kmul m (kadd m (kmul m (x) (x)) (kadd m (kmul m (x) (x)) (kmul m (x) (x)))) (ksub m (kadd m (kadd m (kmul m (x) (kmul m (y) (y))) (kmul m (x) (kmul m (y) (y)))) (kadd m (kmul m (x) (kmul m (y) (y))) (kmul m (x) (kmul m (y) (y))))) (ksub m (kmul m (kadd m (kmul m (x) (x)) (kadd m (kmul m (x) (x)) (kmul m (x) (x)))) (kadd m (kmul m (x) (x)) (kadd m (kmul m (x) (x)) (kmul m (x) (x))))) (kadd m (kadd m (kadd m (kmul m (x) (kmul m (y) (y))) (kmul m (x) (kmul m (y) (y)))) (kadd m (kmul m (x) (kmul m (y) (y))) (kmul m (x) (kmul m (y) (y))))) (kadd m (kadd m (kmul m (x) (kmul m (y) (y))) (kmul m (x) (kmul m (y) (y)))) (kadd m (kmul m (x) (kmul m (y) (y))) (kmul m (x) (kmul m (y) (y))))))))) (kadd m (kadd m (kadd m (kmul m (kmul m (y) (y)) (kmul m (y) (y))) (kmul m (kmul m (y) (y)) (kmul m (y) (y)))) (kadd m (kmul m (kmul m (y) (y)) (kmul m (y) (y))) (kmul m (kmul m (y) (y)) (kmul m (y) (y))))) (kadd m (kadd m (kmul m (kmul m (y) (y)) (kmul m (y) (y))) (kmul m (kmul m (y) (y)) (kmul m (y) (y)))) (kadd m (kmul m (kmul m (y) (y)) (kmul m (y) (y))) (kmul m (kmul m (y) (y)) (kmul m (y) (y))))))))) (fun i p => #[true, true, true, true, true, true, decide (0 < i), true, true, true, decide (1 < i), true, true, true, true, true, true, decide (2 < i), decide (3 < i), decide (4 < i), decide (5 < i), true, true, true, decide (6 < i), p, false] : Nat → Bool → Array Bool) #[.int .u64 0, .int .u64 0, .int .u64 0, .int .u64 0] 32 25 10 (by kernel_rfl) (by decide) (by kernel_rfl) hS ?_ ?_ ?_
            · intro i hi T w2 K hW2 hT hK
              match i, hi with
              | 0, _ =>
                have t65 : T[65]? = some (ifv p) := hT 65 (by decide)
                have t66 : T[66]? = some (.agg (ev m (kadd m (kadd m (kmul m (x) (kmul m (y) (y))) (kmul m (x) (kmul m (y) (y)))) (kadd m (kmul m (x) (kmul m (y) (y))) (kmul m (x) (kmul m (y) (y))))))) := hT 66 (by decide)
                have t67 : T[67]? = some (.agg (ev m (ksub m (kmul m (kadd m (kmul m (x) (x)) (kadd m (kmul m (x) (x)) (kmul m (x) (x)))) (kadd m (kmul m (x) (x)) (kadd m (kmul m (x) (x)) (kmul m (x) (x))))) (kadd m (kadd m (kadd m (kmul m (x) (kmul m (y) (y))) (kmul m (x) (kmul m (y) (y)))) (kadd m (kmul m (x) (kmul m (y) (y))) (kmul m (x) (kmul m (y) (y))))) (kadd m (kadd m (kmul m (x) (kmul m (y) (y))) (kmul m (x) (kmul m (y) (y)))) (kadd m (kmul m (x) (kmul m (y) (y))) (kmul m (x) (kmul m (y) (y))))))))) := hT 67 (by decide)
                refine wpOp_stepT (i := 6) rfl (fun K' hK' => ?_)
                refine ite_wp (by kernel_rfl) ?_
                refine wp_invoke2D (.tmp 65) (.tmp 66) (.tmp 67) "Sub" _ 68 rfl rfl (eval_get t65) (eval_get t66) (eval_get t67) (cm_Sub p _ _ _) (c_Sub ((HG.out.below hW2).ok) (kadd m (kadd m (kmul m (x) (kmul m (y) (y))) (kmul m (x) (kmul m (y) (y)))) (kadd m (kmul m (x) (kmul m (y) (y))) (kmul m (x) (kmul m (y) (y))))) (ksub m (kmul m (kadd m (kmul m (x) (x)) (kadd m (kmul m (x) (x)) (kmul m (x) (x)))) (kadd m (kmul m (x) (x)) (kadd m (kmul m (x) (x)) (kmul m (x) (x))))) (kadd m (kadd m (kadd m (kmul m (x) (kmul m (y) (y))) (kmul m (x) (kmul m (y) (y)))) (kadd m (kmul m (x) (kmul m (y) (y))) (kmul m (x) (kmul m (y) (y))))) (kadd m (kadd m (kmul m (x) (kmul m (y) (y))) (kmul m (x) (kmul m (y) (y)))) (kadd m (kmul m (x) (kmul m (y) (y))) (kmul m (x) (kmul m (y) (y)))))))) ?_
                intro w3 hb
                exact hK' _ _ (hK w3 hb)
              | 1, _ =>
                have t71 : T[71]? = some (ifv p) := hT 71 (by decide)
                have t64 : T[64]? = some (.agg (ev m (kadd m (kmul m (x) (x)) (kadd m (kmul m (x) (x)) (kmul m (x) (x)))))) := hT 64 (by decide)
                have t68 : T[68]? = some (.agg (ev m (ksub m (kadd m (kadd m (kmul m (x) (kmul m (y) (y))) (kmul m (x) (kmul m (y) (y)))) (kadd m (kmul m (x) (kmul m (y) (y))) (kmul m (x) (kmul m (y) (y))))) (ksub m (kmul m (kadd m (kmul m (x) (x)) (kadd m (kmul m (x) (x)) (kmul m (x) (x)))) (kadd m (kmul m (x) (x)) (kadd m (kmul m (x) (x)) (kmul m (x) (x))))) (kadd m (kadd m (kadd m (kmul m (x) (kmul m (y) (y))) (kmul m (x) (kmul m (y) (y)))) (kadd m (kmul m (x) (kmul m (y) (y))) (kmul m (x) (kmul m (y) (y))))) (kadd m (kadd m (kmul m (x) (kmul m (y) (y))) (kmul m (x) (kmul m (y) (y)))) (kadd m (kmul m (x) (kmul m (y) (y))) (kmul m (x) (kmul m (y) (y)))))))))) := hT 68 (by decide)
                refine wpOp_stepT (i := 10) rfl (fun K' hK' => ?_)
                refine ite_wp (by kernel_rfl) ?_
                refine wp_invoke2D (.tmp 71) (.tmp 64) (.tmp 68) "Mul" _ 72 rfl rfl (eval_get t71) (eval_get t64) (eval_get t68) (cm_Mul p _ _ _) (c_Mul ((HG.out.below hW2).ok) (kadd m (kmul m (x) (x)) (kadd m (kmul m (x) (x)) (kmul m (x) (x)))) (ksub m (kadd m (kadd m (kmul m (x) (kmul m (y) (y))) (kmul m (x) (kmul m (y) (y)))) (kadd m (kmul m (x) (kmul m (y) (y))) (kmul m (x) (kmul m (y) (y))))) (ksub m (kmul m (kadd m (kmul m (x) (x)) (kadd m (kmul m (x) (x)) (kmul m (x) (x)))) (kadd m (kmul m (x) (x)) (kadd m (kmul m (x) (x)) (kmul m (x) (x))))) (kadd m (kadd m (kadd m (kmul m (x) (kmul m (y) (y))) (kmul m (x) (kmul m (y) (y)))) (kadd m (kmul m (x) (kmul m (y) (y))) (kmul m (x) (kmul m (y) (y))))) (kadd m (kadd m (kmul m (x) (kmul m (y) (y))) (kmul m (x) (kmul m (y) (y)))) (kadd m (kmul m (x) (kmul m (y) (y))) (kmul m (x) (kmul m (y) (y))))))))) ?_
                intro w3 hb
                exact hK' _ _ (hK w3 hb)
              | 2, _ =>
                have t76 : T[76]? = some (ifv p) := hT 76 (by decide)
                have t77 : T[77]? = some (.agg (ev m (kmul m (y) (y)))) := hT 77 (by decide)
                have t78 : T[78]? = some (.agg (ev m (kmul m (y) (y)))) := hT 78 (by decide)
                refine wpOp_stepT (i := 17) rfl (fun K' hK' => ?_)
                refine ite_wp (by kernel_rfl) ?_
                refine wp_invoke2D (.tmp 76) (.tmp 77) (.tmp 78) "Mul" _ 79 rfl rfl (eval_get t76) (eval_get t77) (eval_get t78) (cm_Mul p _ _ _) (c_Mul ((HG.out.below hW2).ok) (kmul m (y) (y)) (kmul m (y) (y))) ?_
                intro w3 hb
                exact hK' _ _ (hK w3 hb)
              | 3, _ =>
                have t75 : T[75]? = some (.pointer (some ⟨g, 0, none⟩)) := hT 75 (by decide)
                have t79 : T[79]? = some (.agg (ev m (kmul m (kmul m (y) (y)) (kmul m (y) (y))))) := hT 79 (by decide)
                refine wpOp_stepT (i := 18) rfl (fun K' hK' => ?_)
                refine ite_wp (by kernel_rfl) ?_
                refine wp_call2D (.tmp 75) (.tmp 79) _ 80 rfl rfl (eval_get t75) (eval_get t79) (enters_of Tryz.func238 (by kernel_rfl) rfl) (twice_any (HG.out.below hW2) (kmul m (kmul m (y) (y)) (kmul m (y) (y)))) ?_
                intro w3 hb
                exact hK' _ _ (hK w3 hb)
              | 4, _ =>
                have t74 : T[74]? = some (.pointer (some ⟨g, 0, none⟩)) := hT 74 (by decide)
                have t80 : T[80]? = some (.agg (ev m (kadd m (kmul m (kmul m (y) (y)) (kmul m (y) (y))) (kmul m (kmul m (y) (y)) (kmul m (y) (y)))))) := hT 80 (by decide)
                refine wpOp_stepT (i := 19) rfl (fun K' hK' => ?_)
                refine ite_wp (by kernel_rfl) ?_
                refine wp_call2D (.tmp 74) (.tmp 80) _ 81 rfl rfl (eval_get t74) (eval_get t80) (enters_of Tryz.func238 (by kernel_rfl) rfl) (twice_any (HG.out.below hW2) (kadd m (kmul m (kmul m (y) (y)) (kmul m (y) (y))) (kmul m (kmul m (y) (y)) (kmul m (y) (y))))) ?_
                intro w3 hb
                exact hK' _ _ (hK w3 hb)
              | 5, _ =>
                have t73 : T[73]? = some (.pointer (some ⟨g, 0, none⟩)) := hT 73 (by decide)
                have t81 : T[81]? = some (.agg (ev m (kadd m (kadd m (kmul m (kmul m (y) (y)) (kmul m (y) (y))) (kmul m (kmul m (y) (y)) (kmul m (y) (y)))) (kadd m (kmul m (kmul m (y) (y)) (kmul m (y) (y))) (kmul m (kmul m (y) (y)) (kmul m (y) (y))))))) := hT 81 (by decide)
                refine wpOp_stepT (i := 20) rfl (fun K' hK' => ?_)
                refine ite_wp (by kernel_rfl) ?_
                refine wp_call2D (.tmp 73) (.tmp 81) _ 82 rfl rfl (eval_get t73) (eval_get t81) (enters_of Tryz.func238 (by kernel_rfl) rfl) (twice_any (HG.out.below hW2) (kadd m (kadd m (kmul m (kmul m (y) (y)) (kmul m (y) (y))) (kmul m (kmul m (y) (y)) (kmul m (y) (y)))) (kadd m (kmul m (kmul m (y) (y)) (kmul m (y) (y))) (kmul m (kmul m (y) (y)) (kmul m (y) (y)))))) ?_
                intro w3 hb
                exact hK' _ _ (hK w3 hb)
              | 6, _ =>
                have t85 : T[85]? = some (ifv p) := hT 85 (by decide)
                have t72 : T[72]? = some (.agg (ev m (kmul m (kadd m (kmul m (x) (x)) (kadd m (kmul m (x) (x)) (kmul m (x) (x)))) (ksub m (kadd m (kadd m (kmul m (x) (kmul m (y) (y))) (kmul m (x) (kmul m (y) (y)))) (kadd m (kmul m (x) (kmul m (y) (y))) (kmul m (x) (kmul m (y) (y))))) (ksub m (kmul m (kadd m (kmul m (x) (x)) (kadd m (kmul m (x) (x)) (kmul m (x) (x)))) (kadd m (kmul m (x) (x)) (kadd m (kmul m (x) (x)) (kmul m (x) (x))))) (kadd m (kadd m (kadd m (kmul m (x) (kmul m (y) (y))) (kmul m (x) (kmul m (y) (y)))) (kadd m (kmul m (x) (kmul m (y) (y))) (kmul m (x) (kmul m (y) (y))))) (kadd m (kadd m (kmul m (x) (kmul m (y) (y))) (kmul m (x) (kmul m (y) (y)))) (kadd m (kmul m (x) (kmul m (y) (y))) (kmul m (x) (kmul m (y) (y))))))))))) := hT 72 (by decide)
                have t82 : T[82]? = some (.agg (ev m (kadd m (kadd m (kadd m (kmul m (kmul m (y) (y)) (kmul m (y) (y))) (kmul m (kmul m (y) (y)) (kmul m (y) (y)))) (kadd m (kmul m (kmul m (y) (y)) (kmul m (y) (y))) (kmul m (kmul m (y) (y)) (kmul m (y) (y))))) (kadd m (kadd m (kmul m (kmul m (y) (y)) (kmul m (y) (y))) (kmul m (kmul m (y) (y)) (kmul m (y) (y)))) (kadd m (kmul m (kmul m (y) (y)) (kmul m (y) (y))) (kmul m (kmul m (y) (y)) (kmul m (y) (y)))))))) := hT 82 (by decide)
                refine wpOp_stepT (i := 24) rfl (fun K' hK' => ?_)
                refine ite_wp (by kernel_rfl) ?_
                refine wp_invoke2D (.tmp 85) (.tmp 72) (.tmp 82) "Sub" _ 86 rfl rfl (eval_get t85) (eval_get t72) (eval_get t82) (cm_Sub p _ _ _) (c_Sub ((HG.out.below hW2).ok) (kmul m (kadd m (kmul m (x) (x)) (kadd m (kmul m (x) (x)) (kmul m (x) (x)))) (ksub m (kadd m (kadd m (kmul m (x) (kmul m (y) (y))) (kmul m (x) (kmul m (y) (y)))) (kadd m (kmul m (x) (kmul m (y) (y))) (kmul m (x) (kmul m (y) (y))))) (ksub m (kmul m (kadd m (kmul m (x) (x)) (kadd m (kmul m (x) (x)) (kmul m (x) (x)))) (kadd m (kmul m (x) (x)) (kadd m (kmul m (x) (x)) (kmul m (x) (x))))) (kadd m (kadd m (kadd m (kmul m (x) (kmul m (y) (y))) (kmul m (x) (kmul m (y) (y)))) (kadd m (kmul m (x) (kmul m (y) (y))) (kmul m (x) (kmul m (y) (y))))) (kadd m (kadd m (kmul m (x) (kmul m (y) (y))) (kmul m (x) (kmul m (y) (y)))) (kadd m (kmul m (x) (kmul m (y) (y))) (kmul m (x) (kmul m (y) (y))))))))) (kadd m (kadd m (kadd m (kmul m (kmul m (y) (y)) (kmul m (y) (y))) (kmul m (kmul m (y) (y)) (kmul m (y) (y)))) (kadd m (kmul m (kmul m (y) (y)) (kmul m (y) (y))) (kmul m (kmul m (y) (y)) (kmul m (y) (y))))) (kadd m (kadd m (kmul m (kmul m (y) (y)) (kmul m (y) (y))) (kmul m (kmul m (y) (y)) (kmul m (y) (y)))) (kadd m (kmul m (kmul m (y) (y)) (kmul m (y) (y))) (kmul m (kmul m (y) (y)) (kmul m (y) (y))))))) ?_
                intro w3 hb
                exact hK' _ _ (hK w3 hb)
              | k' + 7, h => exact absurd h (by omega)
            · intro T w2 K hT hK
              refine wpOp_stepT rfl (fun K' hK' => ?_)
              have HK' := hideP hK'
              have HK9 := hideP hK
              clear hK hK'
              go_simp
              exact HK'.out _ _ HK9.out
            intro x25 B24 hS lB24 hB24
            simp only [TC, List.set_cons_succ, List.set_cons_zero]
            refine wpAnyH_ready (rs := [26]) (by kernel_rfl) (by simp) (AllReadyH.cons rfl (fun K hK => ?_) AllReadyH.nil)
            refine ite_wp (by kernel_rfl) ?_
            refine wp_store_midN 32 (.tmp 10) (.tmp 86) rfl rfl (B24) 0 (ev m (ksub m (kmul m (kadd m (kmul m (x) (x)) (kadd m (kmul m (x) (x)) (kmul m (x) (x)))) (ksub m (kadd m (kadd m (kmul m (x) (kmul m (y) (y))) (kmul m (x) (kmul m (y) (y)))) (kadd m (kmul m (x) (kmul m (y) (y))) (kmul m (x) (kmul m (y) (y))))) (ksub m (kmul m (kadd m (kmul m (x) (x)) (kadd m (kmul m (x) (x)) (kmul m (x) (x)))) (kadd m (kmul m (x) (x)) (kadd m (kmul m (x) (x)) (kmul m (x) (x))))) (kadd m (kadd m (kadd m (kmul m (x) (kmul m (y) (y))) (kmul m (x) (kmul m (y) (y)))) (kadd m (kmul m (x) (kmul m (y) (y))) (kmul m (x) (kmul m (y) (y))))) (kadd m (kadd m (kmul m (x) (kmul m (y) (y))) (kmul m (x) (kmul m (y) (y)))) (kadd m (kmul m (x) (kmul m (y) (y))) (kmul m (x) (kmul m (y) (y))))))))) (kadd m (kadd m (kadd m (kmul m (kmul m (y) (y)) (kmul m (y) (y))) (kmul m (kmul m (y) (y)) (kmul m (y) (y)))) (kadd m (kmul m (kmul m (y) (y)) (kmul m (y) (y))) (kmul m (kmul m (y) (y)) (kmul m (y) (y))))) (kadd m (kadd m (kmul m (kmul m (y) (y)) (kmul m (y) (y))) (kmul m (kmul m (y) (y)) (kmul m (y) (y)))) (kadd m (kmul m (kmul m (y) (y)) (kmul m (y) (y))) (kmul m (kmul m (y) (y)) (kmul m (y) (y)))))))) rfl rfl (there_of hB24 (zc_size.trans (ev_size _ _).symm)) (infoE (ev_size _ _)) (ev_one _ _) ?_
            have hB249 := blk_sets (ev m (ksub m (kmul m (kadd m (kmul m (x) (x)) (kadd m (kmul m (x) (x)) (kmul m (x) (x)))) (ksub m (kadd m (kadd m (kmul m (x) (kmul m (y) (y))) (kmul m (x) (kmul m (y) (y)))) (kadd m (kmul m (x) (kmul m (y) (y))) (kmul m (x) (kmul m (y) (y))))) (ksub m (kmul m (kadd m (kmul m (x) (x)) (kadd m (kmul m (x) (x)) (kmul m (x) (x)))) (kadd m (kmul m (x) (x)) (kadd m (kmul m (x) (x)) (kmul m (x) (x))))) (kadd m (kadd m (kadd m (kmul m (x) (kmul m (y) (y))) (kmul m (x) (kmul m (y) (y)))) (kadd m (kmul m (x) (kmul m (y) (y))) (kmul m (x) (kmul m (y) (y))))) (kadd m (kadd m (kmul m (x) (kmul m (y) (y))) (kmul m (x) (kmul m (y) (y)))) (kadd m (kmul m (x) (kmul m (y) (y))) (kmul m (x) (kmul m (y) (y))))))))) (kadd m (kadd m (kadd m (kmul m (kmul m (y) (y)) (kmul m (y) (y))) (kmul m (kmul m (y) (y)) (kmul m (y) (y)))) (kadd m (kmul m (kmul m (y) (y)) (kmul m (y) (y))) (kmul m (kmul m (y) (y)) (kmul m (y) (y))))) (kadd m (kadd m (kmul m (kmul m (y) (y)) (kmul m (y) (y))) (kmul m (kmul m (y) (y)) (kmul m (y) (y)))) (kadd m (kmul m (kmul m (y) (y)) (kmul m (y) (y))) (kmul m (kmul m (y) (y)) (kmul m (y) (y)))))))).toList 0 hB24
            rw [putAll_eq (zc_size.trans (ev_size _ _).symm)] at hB249
            have hB1 := But.sets (ev m (ksub m (kmul m (kadd m (kmul m (x) (x)) (kadd m (kmul m (x) (x)) (kmul m (x) (x)))) (ksub m (kadd m (kadd m (kmul m (x) (kmul m (y) (y))) (kmul m (x) (kmul m (y) (y)))) (kadd m (kmul m (x) (kmul m (y) (y))) (kmul m (x) (kmul m (y) (y))))) (ksub m (kmul m (kadd m (kmul m (x) (x)) (kadd m (kmul m (x) (x)) (kmul m (x) (x)))) (kadd m (kmul m (x) (x)) (kadd m (kmul m (x) (x)) (kmul m (x) (x))))) (kadd m (kadd m (kadd m (kmul m (x) (kmul m (y) (y))) (kmul m (x) (kmul m (y) (y)))) (kadd m (kmul m (x) (kmul m (y) (y))) (kmul m (x) (kmul m (y) (y))))) (kadd m (kadd m (kmul m (x) (kmul m (y) (y))) (kmul m (x) (kmul m (y) (y)))) (kadd m (kmul m (x) (kmul m (y) (y))) (kmul m (x) (kmul m (y) (y))))))))) (kadd m (kadd m (kadd m (kmul m (kmul m (y) (y)) (kmul m (y) (y))) (kmul m (kmul m (y) (y)) (kmul m (y) (y)))) (kadd m (kmul m (kmul m (y) (y)) (kmul m (y) (y))) (kmul m (kmul m (y) (y)) (kmul m (y) (y))))) (kadd m (kadd m (kmul m (kmul m (y) (y)) (kmul m (y) (y))) (kmul m (kmul m (y) (y)) (kmul m (y) (y)))) (kadd m (kmul m (kmul m (y) (y)) (kmul m (y) (y))) (kmul m (kmul m (y) (y)) (kmul m (y) (y)))))))).toList 0 (But.refl B24 x25)
            have hSB := hS.trans (hB1.below.mono lB24)
            clear hB1 hB24
            have hB24 := hB249
            clear hB249
            generalize World.setCells x25 B24 0 (ev m (ksub m (kmul m (kadd m (kmul m (x) (x)) (kadd m (kmul m (x) (x)) (kmul m (x) (x)))) (ksub m (kadd m (kadd m (kmul m (x) (kmul m (y) (y))) (kmul m (x) (kmul m (y) (y)))) (kadd m (kmul m (x) (kmul m (y) (y))) (kmul m (x) (kmul m (y) (y))))) (ksub m (kmul m (kadd m (kmul m (x) (x)) (kadd m (kmul m (x) (x)) (kmul m (x) (x)))) (kadd m (kmul m (x) (x)) (kadd m (kmul m (x) (x)) (kmul m (x) (x))))) (kadd m (kadd m (kadd m (kmul m (x) (kmul m (y) (y))) (kmul m (x) (kmul m (y) (y)))) (kadd m (kmul m (x) (kmul m (y) (y))) (kmul m (x) (kmul m (y) (y))))) (kadd m (kadd m (kmul m (x) (kmul m (y) (y))) (kmul m (x) (kmul m (y) (y)))) (kadd m (kmul m (x) (kmul m (y) (y))) (kmul m (x) (kmul m (y) (y))))))))) (kadd m (kadd m (kadd m (kmul m (kmul m (y) (y)) (kmul m (y) (y))) (kmul m (kmul m (y) (y)) (kmul m (y) (y)))) (kadd m (kmul m (kmul m (y) (y)) (kmul m (y) (y))) (kmul m (kmul m (y) (y)) (kmul m (y) (y))))) (kadd m (kadd m (kmul m (kmul m (y) (y)) (kmul m (y) (y))) (kmul m (kmul m (y) (y)) (kmul m (y) (y)))) (kadd m (kmul m (kmul m (y) (y)) (kmul m (y) (y))) (kmul m (kmul m (y) (y)) (kmul m (y) (y)))))))).toList = x26 at *
            refine hK.out _ _ hSB (fun hS => ?_)
            clear hK K hSB
            refine wpAnyH_done (by kernel_rfl) ?_ _
            (try simp only [put_none])
            refine HK1.out _ _ ?_
            clear HK1 K1
            have HG9 := hideP (HG.out.below hS)
            have H09 := hideP ((hS.block _ (lt_of_block H0.out)).trans H0.out)
            have Hr9 := hideP ((hS.block _ (lt_of_block Hr.out)).trans Hr.out)
            have HB59 := hideP ((hS.block _ (lt_of_block HB5.out)).trans HB5.out)
            have HB119 := hideP ((hS.block _ (lt_of_block HB11.out)).trans HB11.out)
            have HB159 := hideP ((hS.block _ (lt_of_block HB15.out)).trans HB15.out)
            have HB219 := hideP ((hS.block _ (lt_of_block HB21.out)).trans HB21.out)
            have HBW9 := hideP (HBW.out.trans (hS.mono (Nat.le_of_lt (lt_of_block H0.out))))
            have oB24 : B21 < B24 := by have := lt_of_block HB21.out; omega
            clear hS HG HBW H0 Hr HB5 HB11 HB15 HB21 lB24
            have HG := HG9
            clear HG9
            have HBW := HBW9
            clear HBW9
            have H0 := H09
            clear H09
            have Hr := Hr9
            clear Hr9
            have HB5 := HB59
            clear HB59
            have HB11 := HB119
            clear HB119
            have HB15 := HB159
            clear HB159
            have HB21 := HB219
            clear HB219
            have HB24 := hideP hB24
            clear hB24
            as_aux_lemma =>
              refine wp_seqH (fun K1 HK1 => ?_)
              refine wp_region_heldS (S := fun V => KQ x26 B1 12 264 V) (by kernel_rfl) (KQ.init Hr.out s_B1) (fun hS => ?_)
              refine wpAnyH_takeL (i := 0) (v := .agg (ev m (ksub m (kmul m (kadd m (kmul m (x) (x)) (kadd m (kmul m (x) (x)) (kmul m (x) (x)))) (kadd m (kmul m (x) (x)) (kadd m (kmul m (x) (x)) (kmul m (x) (x))))) (kadd m (kadd m (kadd m (kmul m (x) (kmul m (y) (y))) (kmul m (x) (kmul m (y) (y)))) (kadd m (kmul m (x) (kmul m (y) (y))) (kmul m (x) (kmul m (y) (y))))) (kadd m (kadd m (kmul m (x) (kmul m (y) (y))) (kmul m (x) (kmul m (y) (y)))) (kadd m (kmul m (x) (kmul m (y) (y))) (kmul m (x) (kmul m (y) (y))))))))) rfl (by kernel_rfl) (by kernel_rfl) (by kernel_rfl) (fun _ _ _ h => h) (yields_loadC (by kernel_rfl) 32 _ rfl (B21) (0) rfl (ev m (ksub m (kmul m (kadd m (kmul m (x) (x)) (kadd m (kmul m (x) (x)) (kmul m (x) (x)))) (kadd m (kmul m (x) (x)) (kadd m (kmul m (x) (x)) (kmul m (x) (x))))) (kadd m (kadd m (kadd m (kmul m (x) (kmul m (y) (y))) (kmul m (x) (kmul m (y) (y)))) (kadd m (kmul m (x) (kmul m (y) (y))) (kmul m (x) (kmul m (y) (y))))) (kadd m (kadd m (kmul m (x) (kmul m (y) (y))) (kmul m (x) (kmul m (y) (y)))) (kadd m (kmul m (x) (kmul m (y) (y))) (kmul m (x) (kmul m (y) (y)))))))) _ (fun V hV => rangeOf (hV.box HB21.out (by omega))) underE rfl (infoE (ev_size _ _))) hS ?_
              simp only [put_list, List.set_cons_succ, List.set_cons_zero]
              refine wpAnyH_takeL (i := 1) (v := .agg (ev m (ksub m (kmul m (kadd m (kmul m (x) (x)) (kadd m (kmul m (x) (x)) (kmul m (x) (x)))) (ksub m (kadd m (kadd m (kmul m (x) (kmul m (y) (y))) (kmul m (x) (kmul m (y) (y)))) (kadd m (kmul m (x) (kmul m (y) (y))) (kmul m (x) (kmul m (y) (y))))) (ksub m (kmul m (kadd m (kmul m (x) (x)) (kadd m (kmul m (x) (x)) (kmul m (x) (x)))) (kadd m (kmul m (x) (x)) (kadd m (kmul m (x) (x)) (kmul m (x) (x))))) (kadd m (kadd m (kadd m (kmul m (x) (kmul m (y) (y))) (kmul m (x) (kmul m (y) (y)))) (kadd m (kmul m (x) (kmul m (y) (y))) (kmul m (x) (kmul m (y) (y))))) (kadd m (kadd m (kmul m (x) (kmul m (y) (y))) (kmul m (x) (kmul m (y) (y)))) (kadd m (kmul m (x) (kmul m (y) (y))) (kmul m (x) (kmul m (y) (y))))))))) (kadd m (kadd m (kadd m (kmul m (kmul m (y) (y)) (kmul m (y) (y))) (kmul m (kmul m (y) (y)) (kmul m (y) (y)))) (kadd m (kmul m (kmul m (y) (y)) (kmul m (y) (y))) (kmul m (kmul m (y) (y)) (kmul m (y) (y))))) (kadd m (kadd m (kmul m (kmul m (y) (y)) (kmul m (y) (y))) (kmul m (kmul m (y) (y)) (kmul m (y) (y)))) (kadd m (kmul m (kmul m (y) (y)) (kmul m (y) (y))) (kmul m (kmul m (y) (y)) (kmul m (y) (y))))))))) rfl (by kernel_rfl) (by kernel_rfl) (by kernel_rfl) (fun _ _ _ h => h) (yields_loadC (by kernel_rfl) 32 _ rfl (B24) (0) rfl (ev m (ksub m (kmul m (kadd m (kmul m (x) (x)) (kadd m (kmul m (x) (x)) (kmul m (x) (x)))) (ksub m (kadd m (kadd m (kmul m (x) (kmul m (y) (y))) (kmul m (x) (kmul m (y) (y)))) (kadd m (kmul m (x) (kmul m (y) (y))) (kmul m (x) (kmul m (y) (y))))) (ksub m (kmul m (kadd m (kmul m (x) (x)) (kadd m (kmul m (x) (x)) (kmul m (x) (x)))) (kadd m (kmul m (x) (x)) (kadd m (kmul m (x) (x)) (kmul m (x) (x))))) (kadd m (kadd m (kadd m (kmul m (x) (kmul m (y) (y))) (kmul m (x) (kmul m (y) (y)))) (kadd m (kmul m (x) (kmul m (y) (y))) (kmul m (x) (kmul m (y) (y))))) (kadd m (kadd m (kmul m (x) (kmul m (y) (y))) (kmul m (x) (kmul m (y) (y)))) (kadd m (kmul m (x) (kmul m (y) (y))) (kmul m (x) (kmul m (y) (y))))))))) (kadd m (kadd m (kadd m (kmul m (kmul m (y) (y)) (kmul m (y) (y))) (kmul m (kmul m (y) (y)) (kmul m (y) (y)))) (kadd m (kmul m (kmul m (y) (y)) (kmul m (y) (y))) (kmul m (kmul m (y) (y)) (kmul m (y) (y))))) (kadd m (kadd m (kmul m (kmul m (y) (y)) (kmul m (y) (y))) (kmul m (kmul m (y) (y)) (kmul m (y) (y)))) (kadd m (kmul m (kmul m (y) (y)) (kmul m (y) (y))) (kmul m (kmul m (y) (y)) (kmul m (y) (y)))))))) _ (fun V hV => rangeOf (hV.box HB24.out (by omega))) underE rfl (infoE (ev_size _ _))) hS ?_
              simp only [put_list, List.set_cons_succ, List.set_cons_zero]
              refine wpAnyH_takeL (i := 2) (v := .agg (pl m (ksub m (kmul m (kadd m (kmul m (x) (x)) (kadd m (kmul m (x) (x)) (kmul m (x) (x)))) (kadd m (kmul m (x) (x)) (kadd m (kmul m (x) (x)) (kmul m (x) (x))))) (kadd m (kadd m (kadd m (kmul m (x) (kmul m (y) (y))) (kmul m (x) (kmul m (y) (y)))) (kadd m (kmul m (x) (kmul m (y) (y))) (kmul m (x) (kmul m (y) (y))))) (kadd m (kadd m (kmul m (x) (kmul m (y) (y))) (kmul m (x) (kmul m (y) (y)))) (kadd m (kmul m (x) (kmul m (y) (y))) (kmul m (x) (kmul m (y) (y))))))) (ksub m (kmul m (kadd m (kmul m (x) (x)) (kadd m (kmul m (x) (x)) (kmul m (x) (x)))) (ksub m (kadd m (kadd m (kmul m (x) (kmul m (y) (y))) (kmul m (x) (kmul m (y) (y)))) (kadd m (kmul m (x) (kmul m (y) (y))) (kmul m (x) (kmul m (y) (y))))) (ksub m (kmul m (kadd m (kmul m (x) (x)) (kadd m (kmul m (x) (x)) (kmul m (x) (x)))) (kadd m (kmul m (x) (x)) (kadd m (kmul m (x) (x)) (kmul m (x) (x))))) (kadd m (kadd m (kadd m (kmul m (x) (kmul m (y) (y))) (kmul m (x) (kmul m (y) (y)))) (kadd m (kmul m (x) (kmul m (y) (y))) (kmul m (x) (kmul m (y) (y))))) (kadd m (kadd m (kmul m (x) (kmul m (y) (y))) (kmul m (x) (kmul m (y) (y)))) (kadd m (kmul m (x) (kmul m (y) (y))) (kmul m (x) (kmul m (y) (y))))))))) (kadd m (kadd m (kadd m (kmul m (kmul m (y) (y)) (kmul m (y) (y))) (kmul m (kmul m (y) (y)) (kmul m (y) (y)))) (kadd m (kmul m (kmul m (y) (y)) (kmul m (y) (y))) (kmul m (kmul m (y) (y)) (kmul m (y) (y))))) (kadd m (kadd m (kmul m (kmul m (y) (y)) (kmul m (y) (y))) (kmul m (kmul m (y) (y)) (kmul m (y) (y)))) (kadd m (kmul m (kmul m (y) (y)) (kmul m (y) (y))) (kmul m (kmul m (y) (y)) (kmul m (y) (y))))))))) rfl (by kernel_rfl) (by kernel_rfl) (by kernel_rfl) (fun _ _ _ h => h) (yields_build2 (by kernel_rfl) 262 (.tmp 87) (.tmp 88) rfl rfl rfl (bd_pl _ _ _)) hS ?_
              simp only [put_list, List.set_cons_succ, List.set_cons_zero]
              refine wpAnyH_takeL (i := 3) (v := ?_) rfl (by kernel_rfl) (by kernel_rfl) (by kernel_rfl) (fun _ _ _ h => h) (Or.inl ⟨by kernel_rfl, ?_⟩) hS ?_
              rotate_left
              · intro V hV
                go_simp
                (try with_reducible rfl)
              simp only [put_list, List.set_cons_succ, List.set_cons_zero]
              refine wpAnyH_takeL (i := 4) (v := ?_) rfl (by kernel_rfl) (by kernel_rfl) (by kernel_rfl) (fun _ _ _ h => h) (Or.inl ⟨by kernel_rfl, ?_⟩) hS ?_
              rotate_left
              · intro V hV
                go_simp
                (try with_reducible rfl)
              simp only [put_list, List.set_cons_succ, List.set_cons_zero]
              refine wpAnyH_takeL (i := 5) (v := ?_) rfl (by kernel_rfl) (by kernel_rfl) (by kernel_rfl) (fun _ _ _ h => h) (Or.inl ⟨by kernel_rfl, ?_⟩) hS ?_
              rotate_left
              · intro V hV
                go_simp
                (try with_reducible rfl)
              simp only [put_list, List.set_cons_succ, List.set_cons_zero]
              refine wpAnyH_takeL (i := 6) (v := ?_) rfl (by kernel_rfl) (by kernel_rfl) (by kernel_rfl) (fun _ _ _ h => h) (Or.inl ⟨by kernel_rfl, ?_⟩) hS ?_
              rotate_left
              · intro V hV
                go_simp
                (try with_reducible rfl)
              simp only [put_list, List.set_cons_succ, List.set_cons_zero]
              refine wpAnyH_takeL (i := 7) (v := .agg (ev m (y))) rfl (by kernel_rfl) (by kernel_rfl) (by kernel_rfl) (fun _ _ _ h => h) (yields_loadC (by kernel_rfl) 32 _ rfl (N) (4) rfl (ev m (y)) _ (fun V hV => sc_y (hV.box H0.out (by omega))) underE rfl (infoE (ev_size _ _))) hS ?_
              simp only [put_list, List.set_cons_succ, List.set_cons_zero]
              refine wpAnyH_takeL (i := 8) (v := ?_) rfl (by kernel_rfl) (by kernel_rfl) (by kernel_rfl) (fun _ _ _ h => h) (Or.inl ⟨by kernel_rfl, ?_⟩) hS ?_
              rotate_left
              · intro V hV
                go_simp
                (try with_reducible rfl)
              simp only [put_list, List.set_cons_succ, List.set_cons_zero]
              refine wpAnyH_takeL (i := 9) (v := .agg (ev m (z))) rfl (by kernel_rfl) (by kernel_rfl) (by kernel_rfl) (fun _ _ _ h => h) (yields_loadC (by kernel_rfl) 32 _ rfl (N) (8) rfl (ev m (z)) _ (fun V hV => sc_z (hV.box H0.out (by omega))) underE rfl (infoE (ev_size _ _))) hS ?_
              simp only [put_list, List.set_cons_succ, List.set_cons_zero]
              refine wpAnyH_ready (rs := [10]) (by kernel_rfl) (by simp) (AllReadyH.cons rfl (fun K hK => ?_) AllReadyH.nil)
              refine ite_wp (by kernel_rfl) ?_
              refine wp_invoke2D (.tmp 91) (.tmp 94) (.tmp 96) "Mul" _ 97 rfl rfl rfl rfl rfl (cm_Mul p _ _ _) (c_Mul ((HG.out.kq hS (by omega) (by omega)).ok) (y) (z)) ?_
              intro x27 hbc
              refine hK.out _ _ (hS.call hbc) (fun hS => ?_)
              clear hK K hbc
              simp only [List.set_cons_succ, List.set_cons_zero]
              refine wpAnyH_ready (rs := [11]) (by kernel_rfl) (by simp) (AllReadyH.cons rfl (fun K hK => ?_) AllReadyH.nil)
              refine ite_wp (by kernel_rfl) ?_
              refine wp_call2D (.tmp 90) (.tmp 97) _ 98 rfl rfl rfl rfl (enters_of Tryz.func238 (by kernel_rfl) rfl) (twice_any (HG.out.kq hS (by omega) (by omega)) (kmul m (y) (z))) ?_
              intro x28 hbc
              refine hK.out _ _ (hS.call hbc) (fun hS => ?_)
              clear hK K hbc
              simp only [List.set_cons_succ, List.set_cons_zero]
              refine wpAnyH_takeL (i := 12) (v := .agg (sc m (ksub m (kmul m (kadd m (kmul m (x) (x)) (kadd m (kmul m (x) (x)) (kmul m (x) (x)))) (kadd m (kmul m (x) (x)) (kadd m (kmul m (x) (x)) (kmul m (x) (x))))) (kadd m (kadd m (kadd m (kmul m (x) (kmul m (y) (y))) (kmul m (x) (kmul m (y) (y)))) (kadd m (kmul m (x) (kmul m (y) (y))) (kmul m (x) (kmul m (y) (y))))) (kadd m (kadd m (kmul m (x) (kmul m (y) (y))) (kmul m (x) (kmul m (y) (y)))) (kadd m (kmul m (x) (kmul m (y) (y))) (kmul m (x) (kmul m (y) (y))))))) (ksub m (kmul m (kadd m (kmul m (x) (x)) (kadd m (kmul m (x) (x)) (kmul m (x) (x)))) (ksub m (kadd m (kadd m (kmul m (x) (kmul m (y) (y))) (kmul m (x) (kmul m (y) (y)))) (kadd m (kmul m (x) (kmul m (y) (y))) (kmul m (x) (kmul m (y) (y))))) (ksub m (kmul m (kadd m (kmul m (x) (x)) (kadd m (kmul m (x) (x)) (kmul m (x) (x)))) (kadd m (kmul m (x) (x)) (kadd m (kmul m (x) (x)) (kmul m (x) (x))))) (kadd m (kadd m (kadd m (kmul m (x) (kmul m (y) (y))) (kmul m (x) (kmul m (y) (y)))) (kadd m (kmul m (x) (kmul m (y) (y))) (kmul m (x) (kmul m (y) (y))))) (kadd m (kadd m (kmul m (x) (kmul m (y) (y))) (kmul m (x) (kmul m (y) (y)))) (kadd m (kmul m (x) (kmul m (y) (y))) (kmul m (x) (kmul m (y) (y))))))))) (kadd m (kadd m (kadd m (kmul m (kmul m (y) (y)) (kmul m (y) (y))) (kmul m (kmul m (y) (y)) (kmul m (y) (y)))) (kadd m (kmul m (kmul m (y) (y)) (kmul m (y) (y))) (kmul m (kmul m (y) (y)) (kmul m (y) (y))))) (kadd m (kadd m (kmul m (kmul m (y) (y)) (kmul m (y) (y))) (kmul m (kmul m (y) (y)) (kmul m (y) (y)))) (kadd m (kmul m (kmul m (y) (y)) (kmul m (y) (y))) (kmul m (kmul m (y) (y)) (kmul m (y) (y))))))) (kadd m (kmul m (y) (z)) (kmul m (y) (z))))) rfl (by kernel_rfl) (by kernel_rfl) (by kernel_rfl) (fun _ _ _ h => h) (yields_build2 (by kernel_rfl) 264 (.tmp 89) (.tmp 98) rfl rfl rfl (bd_sc _ _ _ _)) hS ?_
              simp only [put_list, List.set_cons_succ, List.set_cons_zero]
              refine wpAnyH_ready (rs := [13]) (by kernel_rfl) (by simp) (AllReadyH.cons rfl (fun K hK => ?_) AllReadyH.nil)
              refine ite_wp (by kernel_rfl) ?_
              refine wp_store_midN 264 (.tmp 4) (.tmp 99) rfl rfl (B1) 0 (sc m (ksub m (kmul m (kadd m (kmul m (x) (x)) (kadd m (kmul m (x) (x)) (kmul m (x) (x)))) (kadd m (kmul m (x) (x)) (kadd m (kmul m (x) (x)) (kmul m (x) (x))))) (kadd m (kadd m (kadd m (kmul m (x) (kmul m (y) (y))) (kmul m (x) (kmul m (y) (y)))) (kadd m (kmul m (x) (kmul m (y) (y))) (kmul m (x) (kmul m (y) (y))))) (kadd m (kadd m (kmul m (x) (kmul m (y) (y))) (kmul m (x) (kmul m (y) (y)))) (kadd m (kmul m (x) (kmul m (y) (y))) (kmul m (x) (kmul m (y) (y))))))) (ksub m (kmul m (kadd m (kmul m (x) (x)) (kadd m (kmul m (x) (x)) (kmul m (x) (x)))) (ksub m (kadd m (kadd m (kmul m (x) (kmul m (y) (y))) (kmul m (x) (kmul m (y) (y)))) (kadd m (kmul m (x) (kmul m (y) (y))) (kmul m (x) (kmul m (y) (y))))) (ksub m (kmul m (kadd m (kmul m (x) (x)) (kadd m (kmul m (x) (x)) (kmul m (x) (x)))) (kadd m (kmul m (x) (x)) (kadd m (kmul m (x) (x)) (kmul m (x) (x))))) (kadd m (kadd m (kadd m (kmul m (x) (kmul m (y) (y))) (kmul m (x) (kmul m (y) (y)))) (kadd m (kmul m (x) (kmul m (y) (y))) (kmul m (x) (kmul m (y) (y))))) (kadd m (kadd m (kmul m (x) (kmul m (y) (y))) (kmul m (x) (kmul m (y) (y)))) (kadd m (kmul m (x) (kmul m (y) (y))) (kmul m (x) (kmul m (y) (y))))))))) (kadd m (kadd m (kadd m (kmul m (kmul m (y) (y)) (kmul m (y) (y))) (kmul m (kmul m (y) (y)) (kmul m (y) (y)))) (kadd m (kmul m (kmul m (y) (y)) (kmul m (y) (y))) (kmul m (kmul m (y) (y)) (kmul m (y) (y))))) (kadd m (kadd m (kmul m (kmul m (y) (y)) (kmul m (y) (y))) (kmul m (kmul m (y) (y)) (kmul m (y) (y)))) (kadd m (kmul m (kmul m (y) (y)) (kmul m (y) (y))) (kmul m (kmul m (y) (y)) (kmul m (y) (y))))))) (kadd m (kmul m (y) (z)) (kmul m (y) (z)))) rfl rfl (hS.there (sc_size _ _ _ _)) (infoSc (sc_size _ _ _ _)) (sc_one _ _ _ _) ?_
              have g1 := hS.put (C := sc m (ksub m (kmul m (kadd m (kmul m (x) (x)) (kadd m (kmul m (x) (x)) (kmul m (x) (x)))) (kadd m (kmul m (x) (x)) (kadd m (kmul m (x) (x)) (kmul m (x) (x))))) (kadd m (kadd m (kadd m (kmul m (x) (kmul m (y) (y))) (kmul m (x) (kmul m (y) (y)))) (kadd m (kmul m (x) (kmul m (y) (y))) (kmul m (x) (kmul m (y) (y))))) (kadd m (kadd m (kmul m (x) (kmul m (y) (y))) (kmul m (x) (kmul m (y) (y)))) (kadd m (kmul m (x) (kmul m (y) (y))) (kmul m (x) (kmul m (y) (y))))))) (ksub m (kmul m (kadd m (kmul m (x) (x)) (kadd m (kmul m (x) (x)) (kmul m (x) (x)))) (ksub m (kadd m (kadd m (kmul m (x) (kmul m (y) (y))) (kmul m (x) (kmul m (y) (y)))) (kadd m (kmul m (x) (kmul m (y) (y))) (kmul m (x) (kmul m (y) (y))))) (ksub m (kmul m (kadd m (kmul m (x) (x)) (kadd m (kmul m (x) (x)) (kmul m (x) (x)))) (kadd m (kmul m (x) (x)) (kadd m (kmul m (x) (x)) (kmul m (x) (x))))) (kadd m (kadd m (kadd m (kmul m (x) (kmul m (y) (y))) (kmul m (x) (kmul m (y) (y)))) (kadd m (kmul m (x) (kmul m (y) (y))) (kmul m (x) (kmul m (y) (y))))) (kadd m (kadd m (kmul m (x) (kmul m (y) (y))) (kmul m (x) (kmul m (y) (y)))) (kadd m (kmul m (x) (kmul m (y) (y))) (kmul m (x) (kmul m (y) (y))))))))) (kadd m (kadd m (kadd m (kmul m (kmul m (y) (y)) (kmul m (y) (y))) (kmul m (kmul m (y) (y)) (kmul m (y) (y)))) (kadd m (kmul m (kmul m (y) (y)) (kmul m (y) (y))) (kmul m (kmul m (y) (y)) (kmul m (y) (y))))) (kadd m (kadd m (kmul m (kmul m (y) (y)) (kmul m (y) (y))) (kmul m (kmul m (y) (y)) (kmul m (y) (y)))) (kadd m (kmul m (kmul m (y) (y)) (kmul m (y) (y))) (kmul m (kmul m (y) (y)) (kmul m (y) (y))))))) (kadd m (kmul m (y) (z)) (kmul m (y) (z)))) (sc_size _ _ _ _)
              have hS9 := hS.store (C := sc m (ksub m (kmul m (kadd m (kmul m (x) (x)) (kadd m (kmul m (x) (x)) (kmul m (x) (x)))) (kadd m (kmul m (x) (x)) (kadd m (kmul m (x) (x)) (kmul m (x) (x))))) (kadd m (kadd m (kadd m (kmul m (x) (kmul m (y) (y))) (kmul m (x) (kmul m (y) (y)))) (kadd m (kmul m (x) (kmul m (y) (y))) (kmul m (x) (kmul m (y) (y))))) (kadd m (kadd m (kmul m (x) (kmul m (y) (y))) (kmul m (x) (kmul m (y) (y)))) (kadd m (kmul m (x) (kmul m (y) (y))) (kmul m (x) (kmul m (y) (y))))))) (ksub m (kmul m (kadd m (kmul m (x) (x)) (kadd m (kmul m (x) (x)) (kmul m (x) (x)))) (ksub m (kadd m (kadd m (kmul m (x) (kmul m (y) (y))) (kmul m (x) (kmul m (y) (y)))) (kadd m (kmul m (x) (kmul m (y) (y))) (kmul m (x) (kmul m (y) (y))))) (ksub m (kmul m (kadd m (kmul m (x) (x)) (kadd m (kmul m (x) (x)) (kmul m (x) (x)))) (kadd m (kmul m (x) (x)) (kadd m (kmul m (x) (x)) (kmul m (x) (x))))) (kadd m (kadd m (kadd m (kmul m (x) (kmul m (y) (y))) (kmul m (x) (kmul m (y) (y)))) (kadd m (kmul m (x) (kmul m (y) (y))) (kmul m (x) (kmul m (y) (y))))) (kadd m (kadd m (kmul m (x) (kmul m (y) (y))) (kmul m (x) (kmul m (y) (y)))) (kadd m (kmul m (x) (kmul m (y) (y))) (kmul m (x) (kmul m (y) (y))))))))) (kadd m (kadd m (kadd m (kmul m (kmul m (y) (y)) (kmul m (y) (y))) (kmul m (kmul m (y) (y)) (kmul m (y) (y)))) (kadd m (kmul m (kmul m (y) (y)) (kmul m (y) (y))) (kmul m (kmul m (y) (y)) (kmul m (y) (y))))) (kadd m (kadd m (kmul m (kmul m (y) (y)) (kmul m (y) (y))) (kmul m (kmul m (y) (y)) (kmul m (y) (y)))) (kadd m (kmul m (kmul m (y) (y)) (kmul m (y) (y))) (kmul m (kmul m (y) (y)) (kmul m (y) (y))))))) (kadd m (kmul m (y) (z)) (kmul m (y) (z)))) (sc_size _ _ _ _)
              clear hS
              generalize World.setCells _ (B1) 0 (sc m (ksub m (kmul m (kadd m (kmul m (x) (x)) (kadd m (kmul m (x) (x)) (kmul m (x) (x)))) (kadd m (kmul m (x) (x)) (kadd m (kmul m (x) (x)) (kmul m (x) (x))))) (kadd m (kadd m (kadd m (kmul m (x) (kmul m (y) (y))) (kmul m (x) (kmul m (y) (y)))) (kadd m (kmul m (x) (kmul m (y) (y))) (kmul m (x) (kmul m (y) (y))))) (kadd m (kadd m (kmul m (x) (kmul m (y) (y))) (kmul m (x) (kmul m (y) (y)))) (kadd m (kmul m (x) (kmul m (y) (y))) (kmul m (x) (kmul m (y) (y))))))) (ksub m (kmul m (kadd m (kmul m (x) (x)) (kadd m (kmul m (x) (x)) (kmul m (x) (x)))) (ksub m (kadd m (kadd m (kmul m (x) (kmul m (y) (y))) (kmul m (x) (kmul m (y) (y)))) (kadd m (kmul m (x) (kmul m (y) (y))) (kmul m (x) (kmul m (y) (y))))) (ksub m (kmul m (kadd m (kmul m (x) (x)) (kadd m (kmul m (x) (x)) (kmul m (x) (x)))) (kadd m (kmul m (x) (x)) (kadd m (kmul m (x) (x)) (kmul m (x) (x))))) (kadd m (kadd m (kadd m (kmul m (x) (kmul m (y) (y))) (kmul m (x) (kmul m (y) (y)))) (kadd m (kmul m (x) (kmul m (y) (y))) (kmul m (x) (kmul m (y) (y))))) (kadd m (kadd m (kmul m (x) (kmul m (y) (y))) (kmul m (x) (kmul m (y) (y)))) (kadd m (kmul m (x) (kmul m (y) (y))) (kmul m (x) (kmul m (y) (y))))))))) (kadd m (kadd m (kadd m (kmul m (kmul m (y) (y)) (kmul m (y) (y))) (kmul m (kmul m (y) (y)) (kmul m (y) (y)))) (kadd m (kmul m (kmul m (y) (y)) (kmul m (y) (y))) (kmul m (kmul m (y) (y)) (kmul m (y) (y))))) (kadd m (kadd m (kmul m (kmul m (y) (y)) (kmul m (y) (y))) (kmul m (kmul m (y) (y)) (kmul m (y) (y)))) (kadd m (kmul m (kmul m (y) (y)) (kmul m (y) (y))) (kmul m (kmul m (y) (y)) (kmul m (y) (y))))))) (kadd m (kmul m (y) (z)) (kmul m (y) (z)))).toList = x29 at g1 hS9 ⊢
              refine hK.out _ _ hS9 (fun hS => ?_)
              clear hK K hS9
              refine wpAnyH_done (by kernel_rfl) ?_ _
              (try simp only [put_none])
              refine HK1.out _ _ ?_
              clear HK1 K1
              refine wp_ret ?_
              exact bodyPost_ret_by (results_cell rfl rfl (loadC _ B1 0 264 (sc m (ksub m (kmul m (kadd m (kmul m (x) (x)) (kadd m (kmul m (x) (x)) (kmul m (x) (x)))) (kadd m (kmul m (x) (x)) (kadd m (kmul m (x) (x)) (kmul m (x) (x))))) (kadd m (kadd m (kadd m (kmul m (x) (kmul m (y) (y))) (kmul m (x) (kmul m (y) (y)))) (kadd m (kmul m (x) (kmul m (y) (y))) (kmul m (x) (kmul m (y) (y))))) (kadd m (kadd m (kmul m (x) (kmul m (y) (y))) (kmul m (x) (kmul m (y) (y)))) (kadd m (kmul m (x) (kmul m (y) (y))) (kmul m (x) (kmul m (y) (y))))))) (ksub m (kmul m (kadd m (kmul m (x) (x)) (kadd m (kmul m (x) (x)) (kmul m (x) (x)))) (ksub m (kadd m (kadd m (kmul m (x) (kmul m (y) (y))) (kmul m (x) (kmul m (y) (y)))) (kadd m (kmul m (x) (kmul m (y) (y))) (kmul m (x) (kmul m (y) (y))))) (ksub m (kmul m (kadd m (kmul m (x) (x)) (kadd m (kmul m (x) (x)) (kmul m (x) (x)))) (kadd m (kmul m (x) (x)) (kadd m (kmul m (x) (x)) (kmul m (x) (x))))) (kadd m (kadd m (kadd m (kmul m (x) (kmul m (y) (y))) (kmul m (x) (kmul m (y) (y)))) (kadd m (kmul m (x) (kmul m (y) (y))) (kmul m (x) (kmul m (y) (y))))) (kadd m (kadd m (kmul m (x) (kmul m (y) (y))) (kmul m (x) (kmul m (y) (y)))) (kadd m (kmul m (x) (kmul m (y) (y))) (kmul m (x) (kmul m (y) (y))))))))) (kadd m (kadd m (kadd m (kmul m (kmul m (y) (y)) (kmul m (y) (y))) (kmul m (kmul m (y) (y)) (kmul m (y) (y)))) (kadd m (kmul m (kmul m (y) (y)) (kmul m (y) (y))) (kmul m (kmul m (y) (y)) (kmul m (y) (y))))) (kadd m (kadd m (kmul m (kmul m (y) (y)) (kmul m (y) (y))) (kmul m (kmul m (y) (y)) (kmul m (y) (y)))) (kadd m (kmul m (kmul m (y) (y)) (kmul m (y) (y))) (kmul m (kmul m (y) (y)) (kmul m (y) (y))))))) (kadd m (kmul m (y) (z)) (kmul m (y) (z)))) _ (rangeOf g1) underSc rfl (infoSc (sc_size _ _ _ _)))) rfl ⟨rfl, HBW.out.trans (hS.below.mono (by omega))⟩

end Go.Proofs.YtppijhcfodccfaaGreat.P4
