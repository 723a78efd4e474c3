/-
  A scaled point, as a point.
-/
import Derived.Test.YtppijhcfodccfaaGreatCurveNoneC14
import Derived.Test.YtppijhcfodccfaaGreatCurveNoneC04
namespace Go.Proofs.YtppijhcfodccfaaGreat.P4
open Go.RowKit Go.Shelf

set_option maxHeartbeats 4000000 in
set_option maxRecDepth 100000 in
theorem out_zero {w : World} {g p m : Nat} {b : K} (hG : GAt w g p m b) (x y z : K) (hz : Like m z k0) : Calls Tryz.prog 179 #[.pointer (some ⟨g, 0, none⟩), .agg (sc m x y z)] w fun e w' => e = .returned (.agg (pt (k0) (k0) (true))) ∧ Below w.heap.size w w' := by
  have hg := hG.glt
  have hp := hG.plt
  have HG9 := hideP hG
  clear hG
  go_enter Tryz.func179, Tryz.ntmps179
  refine wp_seqH (fun K0 HK0 => ?_)
  go_wp2_with fail
  refine HK0.out _ _ ?_
  clear HK0 K0
  refine at_world (fun W0 hW0 => ?_)
  have hb0 : W0.heap[w.heap.size]? = some (.cells (sc m (x) (y) (z)) 264 (0, 0)) := by
    rw [hW0]
    exact ((heap_old _ _ (by simp <;> omega)).trans (heap_new _ _))
  have hbr : ∃ C : Array Value, W0.heap[w.heap.size + 1]? = some (.cells C 125 (0, 0)) ∧ C.size = 9 := by
    rw [hW0]
    exact ⟨_, heap_new1 _ _ _, rfl⟩
  have hbw : Below w.heap.size w W0 := by
    rw [hW0]
    repeat first | exact Below.refl _ _ | (refine Below.alloc ?_ (by simp <;> omega) _)
  clear hW0
  have HG := hideP (HG9.out.below hbw)
  clear HG9
  have HBW := hideP hbw
  clear hbw
  generalize hN : w.heap.size = N at *
  clear hN
  generalize hB1 : N + 1 = B1 at *
  have o1 : N < B1 := by omega
  clear hB1
  have H0 := hideP hb0
  clear hb0
  obtain ⟨Cr, hbr, s_B1⟩ := hbr
  have Hr := hideP hbr
  clear hbr
  refine wp_seqH (fun K2 HK2 => ?_)
  refine wp_seqH (fun K1 HK1 => ?_)
  refine wp_region_heldS (S := fun V => Below W0.heap.size W0 V) (by kernel_rfl) (Below.refl _ _).drew (fun hS => ?_)
  refine wpAnyH_takeL (i := 0) (v := ?_) rfl (by kernel_rfl) (by kernel_rfl) (by kernel_rfl) (fun _ _ _ h => h) (Or.inl ⟨by kernel_rfl, ?_⟩) hS ?_
  rotate_left
  · intro V hV
    go_simp
    (try with_reducible rfl)
  simp only [put_list, List.set_cons_succ, List.set_cons_zero]
  refine wpAnyH_takeL (i := 1) (v := .agg (ev m (z))) rfl (by kernel_rfl) (by kernel_rfl) (by kernel_rfl) (fun _ _ _ h => h) (yields_loadC (by kernel_rfl) 32 _ rfl (N) (8) rfl (ev m (z)) _ (fun V hV => sc_z ((hV.block _ (lt_of_block H0.out)).trans H0.out)) underE rfl (infoE (ev_size _ _))) hS ?_
  simp only [put_list, List.set_cons_succ, List.set_cons_zero]
  refine wpAnyH_takeL (i := 2) (v := ?_) rfl (by kernel_rfl) (by kernel_rfl) (by kernel_rfl) (fun _ _ _ h => h) (Or.inl ⟨by kernel_rfl, ?_⟩) hS ?_
  rotate_left
  · intro V hV
    go_simp
    (try with_reducible rfl)
  simp only [put_list, List.set_cons_succ, List.set_cons_zero]
  refine wpAnyH_takeL (i := 3) (v := ?_) rfl (by kernel_rfl) (by kernel_rfl) (by kernel_rfl) (fun _ _ _ h => h) (Or.inl ⟨by kernel_rfl, ?_⟩) hS ?_
  rotate_left
  · intro V hV
    go_simp
    (try with_reducible rfl)
  simp only [put_list, List.set_cons_succ, List.set_cons_zero]
  refine wpAnyH_takeL (i := 4) (v := ?_) rfl (by kernel_rfl) (by kernel_rfl) (by kernel_rfl) (fun _ _ _ h => h) (Or.inl ⟨by kernel_rfl, ?_⟩) hS ?_
  rotate_left
  · intro V hV
    go_simp
    (try with_reducible rfl)
  simp only [put_list, List.set_cons_succ, List.set_cons_zero]
  refine wpAnyH_takeL (i := 5) (v := .agg (ev m (k0))) rfl (by kernel_rfl) (by kernel_rfl) (by kernel_rfl) (fun _ _ _ h => h) (yields_loadC (by kernel_rfl) 32 _ rfl (g) (1) rfl (ev m (k0)) _ (fun V hV => (HG.out.below hV).zero) underE rfl (infoE (ev_size _ _))) hS ?_
  simp only [put_list, List.set_cons_succ, List.set_cons_zero]
  refine wpAnyH_takeL (i := 6) (v := .bool true) rfl (by kernel_rfl) (by kernel_rfl) (by kernel_rfl) (fun _ _ _ h => h) (yields_eql (by kernel_rfl) 32 32 (.tmp 9) (.tmp 13) rfl rfl rfl gqE (fun w => ((eqE 9998 HG.out.ok (z) (k0) w).trans (by rw [decide_eq_true hz])))) hS ?_
  simp only [put_list, List.set_cons_succ, List.set_cons_zero]
  refine wpAnyH_done (by kernel_rfl) ?_ _
  (try simp only [put_none])
  generalize W0.drew = x4 at hS ⊢
  refine HK1.out _ _ ?_
  clear HK1 K1
  have HG9 := hideP (HG.out.below hS)
  have H09 := hideP ((hS.block _ (lt_of_block H0.out)).trans H0.out)
  have Hr9 := hideP ((hS.block _ (lt_of_block Hr.out)).trans Hr.out)
  have HBW9 := hideP (HBW.out.trans (hS.mono (Nat.le_of_lt (lt_of_block H0.out))))
  clear hS HG HBW H0 Hr 
  have HG := HG9
  clear HG9
  have HBW := HBW9
  clear HBW9
  have H0 := H09
  clear H09
  have Hr := Hr9
  clear Hr9
  as_aux_lemma =>
    refine wp_cond_true rfl ?_
    refine wp_seqH (fun K1 HK1 => ?_)
    refine wp_region_list ?_
    have hS := Below.refl x4.heap.size x4
    refine wpList_oper rfl (fun K hK => ?_)
    refine wp_callD (av := #[]) _ _ 15 rfl rfl (by simp only [List.map_toArray, List.map_nil]) (enters_of Tryz.func162 (by kernel_rfl) rfl) (infinity_any _) ?_
    intro x5 hbc
    refine hK _ _ ?_
    clear hK K
    have hS9 := hS.trans (hbc.mono hS.size)
    clear hS hbc
    have hS := hS9
    clear hS9
    simp only [List.set_cons_succ, List.set_cons_zero]
    have hQ := (KQ.start Hr.out s_B1).call hS
    refine wpList_store_midD rfl 125 (.tmp 4) (.tmp 15) rfl rfl (B1) 0 (pt (k0) (k0) (true)) rfl rfl (hQ.there (pt_size _ _ _)) (infoPt (pt_size _ _ _)) (pt_one _ _ _) ?_
    have g1 := hQ.put (C := pt (k0) (k0) (true)) (pt_size _ _ _)
    have hS9 := hQ.store (C := pt (k0) (k0) (true)) (pt_size _ _ _)
    clear hS hQ
    have hS := hS9
    clear hS9
    generalize World.setCells _ (B1) 0 (pt (k0) (k0) (true)).toList = x6 at g1 hS ⊢
    refine wpList_nil ?_
    refine HK1.out _ _ ?_
    clear HK1 K1
    refine wp_ret ?_
    refine then_ret ?_
    exact bodyPost_ret_by (results_cell rfl rfl (loadC _ B1 0 125 (pt (k0) (k0) (true)) _ (rangeOf g1) underPt rfl (infoPt (pt_size _ _ _)))) rfl ⟨rfl, HBW.out.trans (hS.below.mono (by omega))⟩

set_option maxHeartbeats 4000000 in
set_option maxRecDepth 100000 in
theorem out_any {w : World} {g p m : Nat} {b : K} (hG : GAt w g p m b) (x y z : K) (hz : ¬ Like m z k0) : Calls Tryz.prog 179 #[.pointer (some ⟨g, 0, none⟩), .agg (sc m x y z)] w fun e w' => e = .returned (.agg (pt (rest m (kmul m (x) (kmul m (kinv m (z)) (kinv m (z))))) (rest m (kmul m (y) (kmul m (kmul m (kinv m (z)) (kinv m (z))) (kinv m (z))))) (false))) ∧ Below w.heap.size w w' := by
  have hg := hG.glt
  have hp := hG.plt
  have HG9 := hideP hG
  clear hG
  go_enter Tryz.func179, Tryz.ntmps179
  refine wp_seqH (fun K0 HK0 => ?_)
  go_wp2_with fail
  refine HK0.out _ _ ?_
  clear HK0 K0
  refine at_world (fun W0 hW0 => ?_)
  have hb0 : W0.heap[w.heap.size]? = some (.cells (sc m (x) (y) (z)) 264 (0, 0)) := by
    rw [hW0]
    exact ((heap_old _ _ (by simp <;> omega)).trans (heap_new _ _))
  have hbr : ∃ C : Array Value, W0.heap[w.heap.size + 1]? = some (.cells C 125 (0, 0)) ∧ C.size = 9 := by
    rw [hW0]
    exact ⟨_, heap_new1 _ _ _, rfl⟩
  have hbw : Below w.heap.size w W0 := by
    rw [hW0]
    repeat first | exact Below.refl _ _ | (refine Below.alloc ?_ (by simp <;> omega) _)
  clear hW0
  have HG := hideP (HG9.out.below hbw)
  clear HG9
  have HBW := hideP hbw
  clear hbw
  generalize hN : w.heap.size = N at *
  clear hN
  generalize hB1 : N + 1 = B1 at *
  have o1 : N < B1 := by omega
  clear hB1
  have H0 := hideP hb0
  clear hb0
  obtain ⟨Cr, hbr, s_B1⟩ := hbr
  have Hr := hideP hbr
  clear hbr
  refine wp_seqH (fun K2 HK2 => ?_)
  refine wp_seqH (fun K1 HK1 => ?_)
  refine wp_region_heldS (S := fun V => Below W0.heap.size W0 V) (by kernel_rfl) (Below.refl _ _).drew (fun hS => ?_)
  refine wpAnyH_takeL (i := 0) (v := ?_) rfl (by kernel_rfl) (by kernel_rfl) (by kernel_rfl) (fun _ _ _ h => h) (Or.inl ⟨by kernel_rfl, ?_⟩) hS ?_
  rotate_left
  · intro V hV
    go_simp
    (try with_reducible rfl)
  simp only [put_list, List.set_cons_succ, List.set_cons_zero]
  refine wpAnyH_takeL (i := 1) (v := .agg (ev m (z))) rfl (by kernel_rfl) (by kernel_rfl) (by kernel_rfl) (fun _ _ _ h => h) (yields_loadC (by kernel_rfl) 32 _ rfl (N) (8) rfl (ev m (z)) _ (fun V hV => sc_z ((hV.block _ (lt_of_block H0.out)).trans H0.out)) underE rfl (infoE (ev_size _ _))) hS ?_
  simp only [put_list, List.set_cons_succ, List.set_cons_zero]
  refine wpAnyH_takeL (i := 2) (v := ?_) rfl (by kernel_rfl) (by kernel_rfl) (by kernel_rfl) (fun _ _ _ h => h) (Or.inl ⟨by kernel_rfl, ?_⟩) hS ?_
  rotate_left
  · intro V hV
    go_simp
    (try with_reducible rfl)
  simp only [put_list, List.set_cons_succ, List.set_cons_zero]
  refine wpAnyH_takeL (i := 3) (v := ?_) rfl (by kernel_rfl) (by kernel_rfl) (by kernel_rfl) (fun _ _ _ h => h) (Or.inl ⟨by kernel_rfl, ?_⟩) hS ?_
  rotate_left
  · intro V hV
    go_simp
    (try with_reducible rfl)
  simp only [put_list, List.set_cons_succ, List.set_cons_zero]
  refine wpAnyH_takeL (i := 4) (v := ?_) rfl (by kernel_rfl) (by kernel_rfl) (by kernel_rfl) (fun _ _ _ h => h) (Or.inl ⟨by kernel_rfl, ?_⟩) hS ?_
  rotate_left
  · intro V hV
    go_simp
    (try with_reducible rfl)
  simp only [put_list, List.set_cons_succ, List.set_cons_zero]
  refine wpAnyH_takeL (i := 5) (v := .agg (ev m (k0))) rfl (by kernel_rfl) (by kernel_rfl) (by kernel_rfl) (fun _ _ _ h => h) (yields_loadC (by kernel_rfl) 32 _ rfl (g) (1) rfl (ev m (k0)) _ (fun V hV => (HG.out.below hV).zero) underE rfl (infoE (ev_size _ _))) hS ?_
  simp only [put_list, List.set_cons_succ, List.set_cons_zero]
  refine wpAnyH_takeL (i := 6) (v := .bool false) rfl (by kernel_rfl) (by kernel_rfl) (by kernel_rfl) (fun _ _ _ h => h) (yields_eql (by kernel_rfl) 32 32 (.tmp 9) (.tmp 13) rfl rfl rfl gqE (fun w => ((eqE 9998 HG.out.ok (z) (k0) w).trans (by rw [decide_eq_false hz])))) hS ?_
  simp only [put_list, List.set_cons_succ, List.set_cons_zero]
  refine wpAnyH_done (by kernel_rfl) ?_ _
  (try simp only [put_none])
  generalize W0.drew = x4 at hS ⊢
  refine HK1.out _ _ ?_
  clear HK1 K1
  have HG9 := hideP (HG.out.below hS)
  have H09 := hideP ((hS.block _ (lt_of_block H0.out)).trans H0.out)
  have Hr9 := hideP ((hS.block _ (lt_of_block Hr.out)).trans Hr.out)
  have HBW9 := hideP (HBW.out.trans (hS.mono (Nat.le_of_lt (lt_of_block H0.out))))
  clear hS HG HBW H0 Hr 
  have HG := HG9
  clear HG9
  have HBW := HBW9
  clear HBW9
  have H0 := H09
  clear H09
  have Hr := Hr9
  clear Hr9
  as_aux_lemma =>
    refine wp_cond_false rfl ?_
    refine wp_skip ?_
    refine HK2.out _ _ ?_
    clear HK2 K2
    refine wp_seqH (fun K1 HK1 => ?_)
    refine wp_region_list ?_
    have hS := Below.refl x4.heap.size x4
    refine wpList_oper rfl (fun K hK => ?_)
    go_simp
    refine hK _ _ ?_
    clear hK K
    refine wpList_oper rfl (fun K hK => ?_)
    go_simp
    refine hK _ _ ?_
    clear hK K
    refine wpList_oper rfl (fun K hK => ?_)
    go_simp
    refine hK _ _ ?_
    clear hK K
    refine wpList_oper rfl (fun K hK => ?_)
    have hf := (HG.out.below hS).fld
    go_simp
    refine hK _ _ ?_
    clear hK K hf
    refine wpList_oper rfl (fun K hK => ?_)
    go_simp
    refine hK _ _ ?_
    clear hK K
    refine wpList_nil ?_
    refine HK1.out _ _ ?_
    clear HK1 K1
    clear hS
    refine wp_seqH (fun K1 HK1 => ?_)
    refine wp_region_list ?_
    have hS := Below.refl x4.heap.size x4
    refine wpList_oper rfl (fun K hK => ?_)
    go_simp
    refine hK _ _ ?_
    clear hK K
    refine wpList_oper rfl (fun K hK => ?_)
    go_simp
    refine hK _ _ ?_
    clear hK K
    refine wpList_load_midD rfl 32 (.tmp 21) 22 rfl rfl (N) (8) (ev m (z)) rfl _ (sc_z ((hS.block _ (lt_of_block H0.out)).trans H0.out)) underE rfl (infoE (ev_size _ _)) ?_
    simp only [List.set_cons_succ, List.set_cons_zero]
    refine wpList_oper rfl (fun K hK => ?_)
    refine wp_invoke1D (.tmp 20) (.tmp 22) "Inv" _ 23 rfl rfl rfl rfl (cm_Inv p _ _) (c_Inv ((HG.out.below hS).ok) (z)) ?_
    intro x5 hbc
    refine hK _ _ ?_
    clear hK K
    have hS9 := hS.trans (hbc.mono hS.size)
    clear hS hbc
    have hS := hS9
    clear hS9
    simp only [List.set_cons_succ, List.set_cons_zero]
    refine wpList_oper rfl (fun K hK => ?_)
    go_simp
    refine hK _ _ ?_
    clear hK K
    refine at_worldL (fun x7 hw9 => ?_)
    have hB6 := heap_new x5 (.cells #[.int .u64 0, .int .u64 0, .int .u64 0, .int .u64 0] 32 (0, 0))
    have lB6 := hS.size
    have hS9 := hS.alloc hS.size (.cells #[.int .u64 0, .int .u64 0, .int .u64 0, .int .u64 0] 32 (0, 0))
    rw [← hw9] at hB6 hS9
    clear hS hw9
    have hS := hS9
    clear hS9
    generalize x5.heap.size = B6 at *
    refine wpList_store_midD rfl 32 (.tmp 6) (.tmp 23) rfl rfl (B6) 0 (ev m (kinv m (z))) rfl rfl (there_of hB6 (zc_size.trans (ev_size _ _).symm)) (infoE (ev_size _ _)) (ev_one _ _) ?_
    have hB69 := blk_sets (ev m (kinv m (z))).toList 0 hB6
    rw [putAll_eq (zc_size.trans (ev_size _ _).symm)] at hB69
    have hB1 := But.sets (ev m (kinv m (z))).toList 0 (But.refl B6 x7)
    have hSB := hS.trans (hB1.below.mono lB6)
    clear hB1 hB6 hS
    have hB6 := hB69
    have hS := hSB
    clear hB69 hSB
    generalize World.setCells x7 B6 0 (ev m (kinv m (z))).toList = x8 at *
    refine wpList_nil ?_
    refine HK1.out _ _ ?_
    clear HK1 K1
    have HG9 := hideP (HG.out.below hS)
    have H09 := hideP ((hS.block _ (lt_of_block H0.out)).trans H0.out)
    have Hr9 := hideP ((hS.block _ (lt_of_block Hr.out)).trans Hr.out)
    have HBW9 := hideP (HBW.out.trans (hS.mono (Nat.le_of_lt (lt_of_block H0.out))))
    have oB6 : B1 < B6 := by have := lt_of_block Hr.out; omega
    clear hS HG HBW H0 Hr lB6
    have HG := HG9
    clear HG9
    have HBW := HBW9
    clear HBW9
    have H0 := H09
    clear H09
    have Hr := Hr9
    clear Hr9
    have HB6 := hideP hB6
    clear hB6
    as_aux_lemma =>
      refine wp_seqH (fun K1 HK1 => ?_)
      refine wp_region_list ?_
      have hS := Below.refl x8.heap.size x8
      refine wpList_oper rfl (fun K hK => ?_)
      go_simp
      refine hK _ _ ?_
      clear hK K
      refine wpList_load_midD rfl 32 (.tmp 6) 25 rfl rfl (B6) (0) (ev m (kinv m (z))) rfl _ (rangeOf ((hS.block _ (lt_of_block HB6.out)).trans HB6.out)) underE rfl (infoE (ev_size _ _)) ?_
      simp only [List.set_cons_succ, List.set_cons_zero]
      refine wpList_load_midD rfl 32 (.tmp 6) 26 rfl rfl (B6) (0) (ev m (kinv m (z))) rfl _ (rangeOf ((hS.block _ (lt_of_block HB6.out)).trans HB6.out)) underE rfl (infoE (ev_size _ _)) ?_
      simp only [List.set_cons_succ, List.set_cons_zero]
      refine wpList_oper rfl (fun K hK => ?_)
      refine wp_invoke2D (.tmp 24) (.tmp 25) (.tmp 26) "Mul" _ 27 rfl rfl rfl rfl rfl (cm_Mul p _ _ _) (c_Mul ((HG.out.below hS).ok) (kinv m (z)) (kinv m (z))) ?_
      intro x9 hbc
      refine hK _ _ ?_
      clear hK K
      have hS9 := hS.trans (hbc.mono hS.size)
      clear hS hbc
      have hS := hS9
      clear hS9
      simp only [List.set_cons_succ, List.set_cons_zero]
      refine wpList_oper rfl (fun K hK => ?_)
      go_simp
      refine hK _ _ ?_
      clear hK K
      refine at_worldL (fun x11 hw9 => ?_)
      have hB10 := heap_new x9 (.cells #[.int .u64 0, .int .u64 0, .int .u64 0, .int .u64 0] 32 (0, 0))
      have lB10 := hS.size
      have hS9 := hS.alloc hS.size (.cells #[.int .u64 0, .int .u64 0, .int .u64 0, .int .u64 0] 32 (0, 0))
      rw [← hw9] at hB10 hS9
      clear hS hw9
      have hS := hS9
      clear hS9
      generalize x9.heap.size = B10 at *
      refine wpList_store_midD rfl 32 (.tmp 7) (.tmp 27) rfl rfl (B10) 0 (ev m (kmul m (kinv m (z)) (kinv m (z)))) rfl rfl (there_of hB10 (zc_size.trans (ev_size _ _).symm)) (infoE (ev_size _ _)) (ev_one _ _) ?_
      have hB109 := blk_sets (ev m (kmul m (kinv m (z)) (kinv m (z)))).toList 0 hB10
      rw [putAll_eq (zc_size.trans (ev_size _ _).symm)] at hB109
      have hB1 := But.sets (ev m (kmul m (kinv m (z)) (kinv m (z)))).toList 0 (But.refl B10 x11)
      have hSB := hS.trans (hB1.below.mono lB10)
      clear hB1 hB10 hS
      have hB10 := hB109
      have hS := hSB
      clear hB109 hSB
      generalize World.setCells x11 B10 0 (ev m (kmul m (kinv m (z)) (kinv m (z)))).toList = x12 at *
      refine wpList_nil ?_
      refine HK1.out _ _ ?_
      clear HK1 K1
      have HG9 := hideP (HG.out.below hS)
      have H09 := hideP ((hS.block _ (lt_of_block H0.out)).trans H0.out)
      have Hr9 := hideP ((hS.block _ (lt_of_block Hr.out)).trans Hr.out)
      have HB69 := hideP ((hS.block _ (lt_of_block HB6.out)).trans HB6.out)
      have HBW9 := hideP (HBW.out.trans (hS.mono (Nat.le_of_lt (lt_of_block H0.out))))
      have oB10 : B6 < B10 := by have := lt_of_block HB6.out; omega
      clear hS HG HBW H0 Hr HB6 lB10
      have HG := HG9
      clear HG9
      have HBW := HBW9
      clear HBW9
      have H0 := H09
      clear H09
      have Hr := Hr9
      clear Hr9
      have HB6 := HB69
      clear HB69
      have HB10 := hideP hB10
      clear hB10
      as_aux_lemma =>
        refine wp_seqH (fun K1 HK1 => ?_)
        refine wp_region_heldS (S := fun V => KQ x12 B1 9 125 V) (by kernel_rfl) (KQ.init Hr.out s_B1) (fun hS => ?_)
        refine wpAnyH_takeL (i := 0) (v := ?_) rfl (by kernel_rfl) (by kernel_rfl) (by kernel_rfl) (fun _ _ _ h => h) (Or.inl ⟨by kernel_rfl, ?_⟩) hS ?_
        rotate_left
        · intro V hV
          go_simp
          (try with_reducible rfl)
        simp only [put_list, List.set_cons_succ, List.set_cons_zero]
        refine wpAnyH_takeL (i := 1) (v := ?_) rfl (by kernel_rfl) (by kernel_rfl) (by kernel_rfl) (fun _ _ _ h => h) (Or.inl ⟨by kernel_rfl, ?_⟩) hS ?_
        rotate_left
        · intro V hV
          go_simp
          (try with_reducible rfl)
        simp only [put_list, List.set_cons_succ, List.set_cons_zero]
        refine wpAnyH_takeL (i := 2) (v := ?_) rfl (by kernel_rfl) (by kernel_rfl) (by kernel_rfl) (fun _ _ _ h => h) (Or.inl ⟨by kernel_rfl, ?_⟩) hS ?_
        rotate_left
        · intro V hV
          go_simp
          (try with_reducible rfl)
        simp only [put_list, List.set_cons_succ, List.set_cons_zero]
        refine wpAnyH_takeL (i := 3) (v := ?_) rfl (by kernel_rfl) (by kernel_rfl) (by kernel_rfl) (fun _ _ _ h => h) (Or.inl ⟨by kernel_rfl, ?_⟩) hS ?_
        rotate_left
        · intro V hV
          go_simp
          (try with_reducible rfl)
        simp only [put_list, List.set_cons_succ, List.set_cons_zero]
        refine wpAnyH_takeL (i := 4) (v := .agg (ev m (x))) rfl (by kernel_rfl) (by kernel_rfl) (by kernel_rfl) (fun _ _ _ h => h) (yields_loadC (by kernel_rfl) 32 _ rfl (N) (0) rfl (ev m (x)) _ (fun V hV => sc_x (hV.box H0.out (by omega))) underE rfl (infoE (ev_size _ _))) hS ?_
        simp only [put_list, List.set_cons_succ, List.set_cons_zero]
        refine wpAnyH_takeL (i := 5) (v := .agg (ev m (kmul m (kinv m (z)) (kinv m (z))))) rfl (by kernel_rfl) (by kernel_rfl) (by kernel_rfl) (fun _ _ _ h => h) (yields_loadC (by kernel_rfl) 32 _ rfl (B10) (0) rfl (ev m (kmul m (kinv m (z)) (kinv m (z)))) _ (fun V hV => rangeOf (hV.box HB10.out (by omega))) underE rfl (infoE (ev_size _ _))) hS ?_
        simp only [put_list, List.set_cons_succ, List.set_cons_zero]
        refine wpAnyH_takeL (i := 7) (v := ?_) rfl (by kernel_rfl) (by kernel_rfl) (by kernel_rfl) (fun _ _ _ h => h) (Or.inl ⟨by kernel_rfl, ?_⟩) hS ?_
        rotate_left
        · intro V hV
          go_simp
          (try with_reducible rfl)
        simp only [put_list, List.set_cons_succ, List.set_cons_zero]
        refine wpAnyH_takeL (i := 8) (v := .func (.method "Out") #[ifv p] #[]) rfl (by kernel_rfl) (by kernel_rfl) (by kernel_rfl) (fun _ _ _ h => h) (yields_nilm (by kernel_rfl) (.tmp 35) rfl rfl (na_Out p)) hS ?_
        simp only [put_list, List.set_cons_succ, List.set_cons_zero]
        refine wpAnyH_takeL (i := 9) (v := ?_) rfl (by kernel_rfl) (by kernel_rfl) (by kernel_rfl) (fun _ _ _ h => h) (Or.inl ⟨by kernel_rfl, ?_⟩) hS ?_
        rotate_left
        · intro V hV
          go_simp
          (try with_reducible rfl)
        simp only [put_list, List.set_cons_succ, List.set_cons_zero]
        refine wpAnyH_takeL (i := 11) (v := ?_) rfl (by kernel_rfl) (by kernel_rfl) (by kernel_rfl) (fun _ _ _ h => h) (Or.inl ⟨by kernel_rfl, ?_⟩) hS ?_
        rotate_left
        · intro V hV
          go_simp
          (try with_reducible rfl)
        simp only [put_list, List.set_cons_succ, List.set_cons_zero]
        refine wpAnyH_takeL (i := 12) (v := ?_) rfl (by kernel_rfl) (by kernel_rfl) (by kernel_rfl) (fun _ _ _ h => h) (Or.inl ⟨by kernel_rfl, ?_⟩) hS ?_
        rotate_left
        · intro V hV
          go_simp
          (try with_reducible rfl)
        simp only [put_list, List.set_cons_succ, List.set_cons_zero]
        refine wpAnyH_takeL (i := 13) (v := ?_) rfl (by kernel_rfl) (by kernel_rfl) (by kernel_rfl) (fun _ _ _ h => h) (Or.inl ⟨by kernel_rfl, ?_⟩) hS ?_
        rotate_left
        · intro V hV
          go_simp
          (try with_reducible rfl)
        simp only [put_list, List.set_cons_succ, List.set_cons_zero]
        refine wpAnyH_takeL (i := 14) (v := ?_) rfl (by kernel_rfl) (by kernel_rfl) (by kernel_rfl) (fun _ _ _ h => h) (Or.inl ⟨by kernel_rfl, ?_⟩) hS ?_
        rotate_left
        · intro V hV
          go_simp
          (try with_reducible rfl)
        simp only [put_list, List.set_cons_succ, List.set_cons_zero]
        refine wpAnyH_takeL (i := 15) (v := .agg (ev m (y))) rfl (by kernel_rfl) (by kernel_rfl) (by kernel_rfl) (fun _ _ _ h => h) (yields_loadC (by kernel_rfl) 32 _ rfl (N) (4) rfl (ev m (y)) _ (fun V hV => sc_y (hV.box H0.out (by omega))) underE rfl (infoE (ev_size _ _))) hS ?_
        simp only [put_list, List.set_cons_succ, List.set_cons_zero]
        refine wpAnyH_takeL (i := 16) (v := ?_) rfl (by kernel_rfl) (by kernel_rfl) (by kernel_rfl) (fun _ _ _ h => h) (Or.inl ⟨by kernel_rfl, ?_⟩) hS ?_
        rotate_left
        · intro V hV
          go_simp
          (try with_reducible rfl)
        simp only [put_list, List.set_cons_succ, List.set_cons_zero]
        refine wpAnyH_takeL (i := 17) (v := .agg (ev m (kmul m (kinv m (z)) (kinv m (z))))) rfl (by kernel_rfl) (by kernel_rfl) (by kernel_rfl) (fun _ _ _ h => h) (yields_loadC (by kernel_rfl) 32 _ rfl (B10) (0) rfl (ev m (kmul m (kinv m (z)) (kinv m (z)))) _ (fun V hV => rangeOf (hV.box HB10.out (by omega))) underE rfl (infoE (ev_size _ _))) hS ?_
        simp only [put_list, List.set_cons_succ, List.set_cons_zero]
        refine wpAnyH_takeL (i := 18) (v := .agg (ev m (kinv m (z)))) rfl (by kernel_rfl) (by kernel_rfl) (by kernel_rfl) (fun _ _ _ h => h) (yields_loadC (by kernel_rfl) 32 _ rfl (B6) (0) rfl (ev m (kinv m (z))) _ (fun V hV => rangeOf (hV.box HB6.out (by omega))) underE rfl (infoE (ev_size _ _))) hS ?_
        simp only [put_list, List.set_cons_succ, List.set_cons_zero]
        refine wpAnyH_takeL (i := 20) (v := ?_) rfl (by kernel_rfl) (by kernel_rfl) (by kernel_rfl) (fun _ _ _ h => h) (Or.inl ⟨by kernel_rfl, ?_⟩) hS ?_
        rotate_left
        · intro V hV
          go_simp
          (try with_reducible rfl)
        simp only [put_list, List.set_cons_succ, List.set_cons_zero]
        refine wpAnyH_takeL (i := 21) (v := .func (.method "Mul") #[ifv p] #[]) rfl (by kernel_rfl) (by kernel_rfl) (by kernel_rfl) (fun _ _ _ h => h) (yields_nilm (by kernel_rfl) (.tmp 48) rfl rfl (na_Mul p)) hS ?_
        simp only [put_list, List.set_cons_succ, List.set_cons_zero]
        refine wpAnyH_takeL (i := 22) (v := ?_) rfl (by kernel_rfl) (by kernel_rfl) (by kernel_rfl) (fun _ _ _ h => h) (Or.inl ⟨by kernel_rfl, ?_⟩) hS ?_
        rotate_left
        · intro V hV
          go_simp
          (try with_reducible rfl)
        simp only [put_list, List.set_cons_succ, List.set_cons_zero]
        refine wpAnyH_takeL (i := 24) (v := ?_) rfl (by kernel_rfl) (by kernel_rfl) (by kernel_rfl) (fun _ _ _ h => h) (Or.inl ⟨by kernel_rfl, ?_⟩) hS ?_
        rotate_left
        · intro V hV
          go_simp
          (try with_reducible rfl)
        simp only [put_list, List.set_cons_succ, List.set_cons_zero]
        refine wpAnyH_takeL (i := 25) (v := .func (.method "Out") #[ifv p] #[]) rfl (by kernel_rfl) (by kernel_rfl) (by kernel_rfl) (fun _ _ _ h => h) (yields_nilm (by kernel_rfl) (.tmp 52) rfl rfl (na_Out p)) hS ?_
        simp only [put_list, List.set_cons_succ, List.set_cons_zero]
        refine wpAnyH_takeL (i := 26) (v := ?_) rfl (by kernel_rfl) (by kernel_rfl) (by kernel_rfl) (fun _ _ _ h => h) (Or.inl ⟨by kernel_rfl, ?_⟩) hS ?_
        rotate_left
        · intro V hV
          go_simp
          (try with_reducible rfl)
        simp only [put_list, List.set_cons_succ, List.set_cons_zero]
        refine wpAnyH_ready (rs := [6]) (by kernel_rfl) (by simp) (AllReadyH.cons rfl (fun K hK => ?_) AllReadyH.nil)
        refine ite_wp (by kernel_rfl) ?_
        refine wp_invoke2D (.tmp 29) (.tmp 32) (.tmp 33) "Mul" _ 34 rfl rfl rfl rfl rfl (cm_Mul p _ _ _) (c_Mul ((HG.out.kq hS (by omega) (by omega)).ok) (x) (kmul m (kinv m (z)) (kinv m (z)))) ?_
        intro x13 hbc
        refine hK.out _ _ (hS.call hbc) (fun hS => ?_)
        clear hK K hbc
        simp only [List.set_cons_succ, List.set_cons_zero]
        refine wpAnyH_ready (rs := [10]) (by kernel_rfl) (by simp) (AllReadyH.cons rfl (fun K hK => ?_) AllReadyH.nil)
        refine ite_wp (by kernel_rfl) ?_
        refine wp_invoke1D (.tmp 37) (.tmp 34) "Out" _ 38 rfl rfl rfl rfl (cm_Out p _ _) (c_Out ((HG.out.kq hS (by omega) (by omega)).ok) (kmul m (x) (kmul m (kinv m (z)) (kinv m (z))))) ?_
        intro x14 hbc
        refine hK.out _ _ (hS.call hbc) (fun hS => ?_)
        clear hK K hbc
        simp only [List.set_cons_succ, List.set_cons_zero]
        refine wpAnyH_ready (rs := [19]) (by kernel_rfl) (by simp) (AllReadyH.cons rfl (fun K hK => ?_) AllReadyH.nil)
        refine ite_wp (by kernel_rfl) ?_
        refine wp_invoke2D (.tmp 44) (.tmp 45) (.tmp 46) "Mul" _ 47 rfl rfl rfl rfl rfl (cm_Mul p _ _ _) (c_Mul ((HG.out.kq hS (by omega) (by omega)).ok) (kmul m (kinv m (z)) (kinv m (z))) (kinv m (z))) ?_
        intro x15 hbc
        refine hK.out _ _ (hS.call hbc) (fun hS => ?_)
        clear hK K hbc
        simp only [List.set_cons_succ, List.set_cons_zero]
        refine wpAnyH_ready (rs := [23]) (by kernel_rfl) (by simp) (AllReadyH.cons rfl (fun K hK => ?_) AllReadyH.nil)
        refine ite_wp (by kernel_rfl) ?_
        refine wp_invoke2D (.tmp 50) (.tmp 43) (.tmp 47) "Mul" _ 51 rfl rfl rfl rfl rfl (cm_Mul p _ _ _) (c_Mul ((HG.out.kq hS (by omega) (by omega)).ok) (y) (kmul m (kmul m (kinv m (z)) (kinv m (z))) (kinv m (z)))) ?_
        intro x16 hbc
        refine hK.out _ _ (hS.call hbc) (fun hS => ?_)
        clear hK K hbc
        simp only [List.set_cons_succ, List.set_cons_zero]
        refine wpAnyH_ready (rs := [27]) (by kernel_rfl) (by simp) (AllReadyH.cons rfl (fun K hK => ?_) AllReadyH.nil)
        refine ite_wp (by kernel_rfl) ?_
        refine wp_invoke1D (.tmp 54) (.tmp 51) "Out" _ 55 rfl rfl rfl rfl (cm_Out p _ _) (c_Out ((HG.out.kq hS (by omega) (by omega)).ok) (kmul m (y) (kmul m (kmul m (kinv m (z)) (kinv m (z))) (kinv m (z))))) ?_
        intro x17 hbc
        refine hK.out _ _ (hS.call hbc) (fun hS => ?_)
        clear hK K hbc
        simp only [List.set_cons_succ, List.set_cons_zero]
        refine wpAnyH_takeL (i := 28) (v := .agg (pt (rest m (kmul m (x) (kmul m (kinv m (z)) (kinv m (z))))) (rest m (kmul m (y) (kmul m (kmul m (kinv m (z)) (kinv m (z))) (kinv m (z))))) (false))) rfl (by kernel_rfl) (by kernel_rfl) (by kernel_rfl) (fun _ _ _ h => h) (yields_build2 (by kernel_rfl) 125 (.tmp 38) (.tmp 55) rfl rfl rfl (bd_pt _ _)) hS ?_
        simp only [put_list, List.set_cons_succ, List.set_cons_zero]
        refine wpAnyH_ready (rs := [29]) (by kernel_rfl) (by simp) (AllReadyH.cons rfl (fun K hK => ?_) AllReadyH.nil)
        refine ite_wp (by kernel_rfl) ?_
        refine wp_store_midN 125 (.tmp 4) (.tmp 56) rfl rfl (B1) 0 (pt (rest m (kmul m (x) (kmul m (kinv m (z)) (kinv m (z))))) (rest m (kmul m (y) (kmul m (kmul m (kinv m (z)) (kinv m (z))) (kinv m (z))))) (false)) rfl rfl (hS.there (pt_size _ _ _)) (infoPt (pt_size _ _ _)) (pt_one _ _ _) ?_
        have g1 := hS.put (C := pt (rest m (kmul m (x) (kmul m (kinv m (z)) (kinv m (z))))) (rest m (kmul m (y) (kmul m (kmul m (kinv m (z)) (kinv m (z))) (kinv m (z))))) (false)) (pt_size _ _ _)
        have hS9 := hS.store (C := pt (rest m (kmul m (x) (kmul m (kinv m (z)) (kinv m (z))))) (rest m (kmul m (y) (kmul m (kmul m (kinv m (z)) (kinv m (z))) (kinv m (z))))) (false)) (pt_size _ _ _)
        clear hS
        generalize World.setCells _ (B1) 0 (pt (rest m (kmul m (x) (kmul m (kinv m (z)) (kinv m (z))))) (rest m (kmul m (y) (kmul m (kmul m (kinv m (z)) (kinv m (z))) (kinv m (z))))) (false)).toList = x18 at g1 hS9 ⊢
        refine hK.out _ _ hS9 (fun hS => ?_)
        clear hK K hS9
        refine wpAnyH_done (by kernel_rfl) ?_ _
        (try simp only [put_none])
        refine HK1.out _ _ ?_
        clear HK1 K1
        refine wp_ret ?_
        exact bodyPost_ret_by (results_cell rfl rfl (loadC _ B1 0 125 (pt (rest m (kmul m (x) (kmul m (kinv m (z)) (kinv m (z))))) (rest m (kmul m (y) (kmul m (kmul m (kinv m (z)) (kinv m (z))) (kinv m (z))))) (false)) _ (rangeOf g1) underPt rfl (infoPt (pt_size _ _ _)))) rfl ⟨rfl, HBW.out.trans (hS.below.mono (by omega))⟩

end Go.Proofs.YtppijhcfodccfaaGreat.P4
