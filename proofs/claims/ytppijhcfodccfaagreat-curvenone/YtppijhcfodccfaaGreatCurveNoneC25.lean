/-
  A curve that nobody made: its methods.
-/
import Derived.Test.YtppijhcfodccfaaGreatCurveNoneC23
import Derived.Test.YtppijhcfodccfaaGreatCurveNoneC24
import Derived.Test.YtppijhcfodccfaaGreatCurveNoneC04
namespace Go.Proofs.YtppijhcfodccfaaGreat.P4
open Go.RowKit Go.Shelf

set_option maxHeartbeats 4000000 in
set_option maxRecDepth 100000 in
theorem good_nil (x y : K) (i : Bool) {w : World} (hG : Tv w) : Calls Tryz.prog 111 #[.pointer none, .agg (pt x y i)] w fun e w' => e = .returned (.int .i64 3) ∧ Below w.heap.size w w' := by
  have HG9 := hideP hG
  clear hG
  go_enter Tryz.func111, Tryz.ntmps111
  refine wp_seqH (fun K0 HK0 => ?_)
  go_wp2_with fail
  refine HK0.out _ _ ?_
  clear HK0 K0
  refine at_world (fun W0 hW0 => ?_)
  have hb0 : W0.heap[w.heap.size]? = some (.cells (pt (x) (y) (i)) 125 (0, 0)) := by
    rw [hW0]
    exact (heap_new _ _)
  have hbw : Below w.heap.size w W0 := by
    rw [hW0]
    repeat first | exact Below.refl _ _ | (refine Below.alloc ?_ (by simp <;> omega) _)
  clear hW0
  have HG := hideP (HG9.out.below hbw)
  clear HG9
  have HBW := hideP hbw
  clear hbw
  generalize hN : w.heap.size = N at *
  clear hN
  have H0 := hideP hb0
  clear hb0
  refine wp_seqH (fun K2 HK2 => ?_)
  refine wp_seqH (fun K1 HK1 => ?_)
  refine wp_region_list ?_
  have hS := Below.refl W0.heap.size W0
  refine wpList_oper rfl (fun K hK => ?_)
  go_simp
  refine hK _ _ ?_
  clear hK K
  refine wpList_oper rfl (fun K hK => ?_)
  go_simp
  refine hK _ _ ?_
  clear hK K
  refine wpList_nil ?_
  refine HK1.out _ _ ?_
  clear HK1 K1
  clear hS
  refine wp_cond_true rfl ?_
  refine wp_seqH (fun K1 HK1 => ?_)
  refine wp_region_list ?_
  have hS := Below.refl W0.heap.size W0
  refine wpList_oper rfl (fun K hK => ?_)
  go_simp
  refine hK _ _ ?_
  clear hK K
  refine wpList_nil ?_
  refine HK1.out _ _ ?_
  clear HK1 K1
  clear hS
  refine wp_ret ?_
  refine then_ret ?_
  exact bodyPost_ret_by (results_tmp rfl _ _ _) rfl ⟨rfl, HBW.out⟩

set_option maxHeartbeats 4000000 in
set_option maxRecDepth 100000 in
theorem beside_3  {w : World} (hG : Tv w) : Calls Tryz.prog 178 #[.int .i64 3] w fun e w' => e = .returned (.agg (pt k0 k0 true)) ∧ Below w.heap.size w w' := by
  have HG9 := hideP hG
  clear hG
  go_enter Tryz.func178, Tryz.ntmps178
  refine wp_seqH (fun K0 HK0 => ?_)
  go_wp2_with fail
  refine HK0.out _ _ ?_
  clear HK0 K0
  refine at_world (fun W0 hW0 => ?_)
  have hbr : ∃ C : Array Value, W0.heap[w.heap.size]? = some (.cells C 125 (0, 0)) ∧ C.size = 9 := by
    rw [hW0]
    exact ⟨_, heap_new _ _, rfl⟩
  have hbw : Below w.heap.size w W0 := by
    rw [hW0]
    repeat first | exact Below.refl _ _ | (refine Below.alloc ?_ (by simp <;> omega) _)
  clear hW0
  have HG := hideP (HG9.out.below hbw)
  clear HG9
  have HBW := hideP hbw
  clear hbw
  generalize hN : w.heap.size = N at *
  clear hN
  obtain ⟨Cr, hbr, s_N⟩ := hbr
  have Hr := hideP hbr
  clear hbr
  refine wp_seqH (fun K2 HK2 => ?_)
  refine wp_seqH (fun K1 HK1 => ?_)
  refine wp_region_list ?_
  have hS := Below.refl W0.heap.size W0
  refine wpList_oper rfl (fun K hK => ?_)
  go_simp
  refine hK _ _ ?_
  clear hK K
  refine wpList_oper rfl (fun K hK => ?_)
  go_simp
  refine hK _ _ ?_
  clear hK K
  refine wpList_nil ?_
  refine HK1.out _ _ ?_
  clear HK1 K1
  clear hS
  refine wp_cond_true rfl ?_
  refine wp_seqH (fun K1 HK1 => ?_)
  refine wp_region_list ?_
  have hS := Below.refl W0.heap.size W0
  refine wpList_oper rfl (fun K hK => ?_)
  refine wp_callD (av := #[]) _ _ 5 rfl rfl (by simp only [List.map_toArray, List.map_nil]) (enters_of Tryz.func162 (by kernel_rfl) rfl) (infinity_any _) ?_
  intro x3 hbc
  refine hK _ _ ?_
  clear hK K
  have hS9 := hS.trans (hbc.mono hS.size)
  clear hS hbc
  have hS := hS9
  clear hS9
  simp only [List.set_cons_succ, List.set_cons_zero]
  have hQ := (KQ.start Hr.out s_N).call hS
  refine wpList_store_midD rfl 125 (.tmp 2) (.tmp 5) rfl rfl (N) 0 (pt (k0) (k0) (true)) rfl rfl (hQ.there (pt_size _ _ _)) (infoPt (pt_size _ _ _)) (pt_one _ _ _) ?_
  have g1 := hQ.put (C := pt (k0) (k0) (true)) (pt_size _ _ _)
  have hS9 := hQ.store (C := pt (k0) (k0) (true)) (pt_size _ _ _)
  clear hS hQ
  have hS := hS9
  clear hS9
  generalize World.setCells _ (N) 0 (pt (k0) (k0) (true)).toList = x4 at g1 hS ⊢
  refine wpList_nil ?_
  refine HK1.out _ _ ?_
  clear HK1 K1
  refine wp_ret ?_
  refine then_ret ?_
  exact bodyPost_ret_by (results_cell rfl rfl (loadC _ N 0 125 (pt (k0) (k0) (true)) _ (rangeOf g1) underPt rfl (infoPt (pt_size _ _ _)))) rfl ⟨rfl, HBW.out.trans (hS.below.mono (by omega))⟩

set_option maxHeartbeats 4000000 in
set_option maxRecDepth 100000 in
theorem generator_nil  {w : World} (hG : Tv w) : Calls Tryz.prog 85 #[.pointer none] w fun e w' => e = .returned (.agg (pt k0 k0 true)) ∧ Below w.heap.size w w' := by
  have HG9 := hideP hG
  clear hG
  go_enter Tryz.func85, Tryz.ntmps85
  refine wp_seqH (fun K0 HK0 => ?_)
  go_wp2_with fail
  refine HK0.out _ _ ?_
  clear HK0 K0
  refine at_world (fun W0 hW0 => ?_)
  have hbr : ∃ C : Array Value, W0.heap[w.heap.size]? = some (.cells C 125 (0, 0)) ∧ C.size = 9 := by
    rw [hW0]
    exact ⟨_, heap_new _ _, rfl⟩
  have hbw : Below w.heap.size w W0 := by
    rw [hW0]
    repeat first | exact Below.refl _ _ | (refine Below.alloc ?_ (by simp <;> omega) _)
  clear hW0
  have HG := hideP (HG9.out.below hbw)
  clear HG9
  have HBW := hideP hbw
  clear hbw
  generalize hN : w.heap.size = N at *
  clear hN
  obtain ⟨Cr, hbr, s_N⟩ := hbr
  have Hr := hideP hbr
  clear hbr
  refine wp_seqH (fun K2 HK2 => ?_)
  refine wp_seqH (fun K1 HK1 => ?_)
  refine wp_region_list ?_
  have hS := Below.refl W0.heap.size W0
  refine wpList_oper rfl (fun K hK => ?_)
  go_simp
  refine hK _ _ ?_
  clear hK K
  refine wpList_oper rfl (fun K hK => ?_)
  go_simp
  refine hK _ _ ?_
  clear hK K
  refine wpList_nil ?_
  refine HK1.out _ _ ?_
  clear HK1 K1
  clear hS
  refine wp_cond_true rfl ?_
  refine wp_seqH (fun K1 HK1 => ?_)
  refine wp_region_list ?_
  have hS := Below.refl W0.heap.size W0
  refine wpList_oper rfl (fun K hK => ?_)
  refine wp_callD (av := #[]) _ _ 5 rfl rfl (by simp only [List.map_toArray, List.map_nil]) (enters_of Tryz.func162 (by kernel_rfl) rfl) (infinity_any _) ?_
  intro x3 hbc
  refine hK _ _ ?_
  clear hK K
  have hS9 := hS.trans (hbc.mono hS.size)
  clear hS hbc
  have hS := hS9
  clear hS9
  simp only [List.set_cons_succ, List.set_cons_zero]
  have hQ := (KQ.start Hr.out s_N).call hS
  refine wpList_store_midD rfl 125 (.tmp 2) (.tmp 5) rfl rfl (N) 0 (pt (k0) (k0) (true)) rfl rfl (hQ.there (pt_size _ _ _)) (infoPt (pt_size _ _ _)) (pt_one _ _ _) ?_
  have g1 := hQ.put (C := pt (k0) (k0) (true)) (pt_size _ _ _)
  have hS9 := hQ.store (C := pt (k0) (k0) (true)) (pt_size _ _ _)
  clear hS hQ
  have hS := hS9
  clear hS9
  generalize World.setCells _ (N) 0 (pt (k0) (k0) (true)).toList = x4 at g1 hS ⊢
  refine wpList_nil ?_
  refine HK1.out _ _ ?_
  clear HK1 K1
  refine wp_ret ?_
  refine then_ret ?_
  exact bodyPost_ret_by (results_cell rfl rfl (loadC _ N 0 125 (pt (k0) (k0) (true)) _ (rangeOf g1) underPt rfl (infoPt (pt_size _ _ _)))) rfl ⟨rfl, HBW.out.trans (hS.below.mono (by omega))⟩

set_option maxHeartbeats 4000000 in
set_option maxRecDepth 100000 in
theorem add_nil (x y : K) (i : Bool) (x2 y2 : K) (i2 : Bool) {w : World} (hG : Tv w) : Calls Tryz.prog 117 #[.pointer none, .agg (pt x y i), .agg (pt x2 y2 i2)] w fun e w' => e = .returned (.tuple #[.agg (pt k0 k0 true), .int .i64 3]) ∧ Below w.heap.size w w' := by
  have HG9 := hideP hG
  clear hG
  go_enter Tryz.func117, Tryz.ntmps117
  refine wp_seqH (fun K0 HK0 => ?_)
  go_wp2_with fail
  refine HK0.out _ _ ?_
  clear HK0 K0
  refine at_world (fun W0 hW0 => ?_)
  have hb0 : W0.heap[w.heap.size]? = some (.cells (pt (x) (y) (i)) 125 (0, 0)) := by
    rw [hW0]
    exact ((heap_old _ _ (by simp <;> omega)).trans ((heap_old _ _ (by simp <;> omega)).trans (heap_new _ _)))
  have hb1 : W0.heap[w.heap.size + 1]? = some (.cells (pt (x2) (y2) (i2)) 125 (0, 0)) := by
    rw [hW0]
    exact ((heap_old _ _ (by simp <;> omega)).trans (heap_new1 _ _ _))
  have hbr : ∃ C : Array Value, W0.heap[w.heap.size + 1 + 1]? = some (.cells C 125 (0, 0)) ∧ C.size = 9 := by
    rw [hW0]
    exact ⟨_, heap_new2 _ _ _ _, rfl⟩
  have hbw : Below w.heap.size w W0 := by
    rw [hW0]
    repeat first | exact Below.refl _ _ | (refine Below.alloc ?_ (by simp <;> omega) _)
  clear hW0
  have HG := hideP (HG9.out.below hbw)
  clear HG9
  have HBW := hideP hbw
  clear hbw
  generalize hN : w.heap.size = N at *
  clear hN
  generalize hB1 : N + 1 = B1 at *
  generalize hB2 : B1 + 1 = B2 at *
  have o1 : N < B1 := by omega
  have o2 : B1 < B2 := by omega
  clear hB2
  clear hB1
  have H0 := hideP hb0
  clear hb0
  have H1 := hideP hb1
  clear hb1
  obtain ⟨Cr, hbr, s_B2⟩ := hbr
  have Hr := hideP hbr
  clear hbr
  refine wp_seqH (fun K2 HK2 => ?_)
  refine wp_seqH (fun K1 HK1 => ?_)
  refine wp_region_list ?_
  have hS := Below.refl W0.heap.size W0
  refine wpList_oper rfl (fun K hK => ?_)
  go_simp
  refine hK _ _ ?_
  clear hK K
  refine wpList_load_midD rfl 125 (.tmp 4) 11 rfl rfl (N) (0) (pt (x) (y) (i)) rfl _ (rangeOf ((hS.block _ (lt_of_block H0.out)).trans H0.out)) underPt rfl (infoPt (pt_size _ _ _)) ?_
  simp only [List.set_cons_succ, List.set_cons_zero]
  refine wpList_oper rfl (fun K hK => ?_)
  refine wp_call2D (.tmp 10) (.tmp 11) _ 12 rfl rfl rfl rfl (enters_of Tryz.func111 (by kernel_rfl) rfl) (good_nil _ _ _ ⟨rfl⟩) ?_
  intro x5 hbc
  refine hK _ _ ?_
  clear hK K
  have hS9 := hS.trans (hbc.mono hS.size)
  clear hS hbc
  have hS := hS9
  clear hS9
  simp only [List.set_cons_succ, List.set_cons_zero]
  refine wpList_oper rfl (fun K hK => ?_)
  go_simp
  refine hK _ _ ?_
  clear hK K
  refine wpList_nil ?_
  refine HK1.out _ _ ?_
  clear HK1 K1
  have HG9 := hideP (HG.out.below hS)
  have H09 := hideP ((hS.block _ (lt_of_block H0.out)).trans H0.out)
  have H19 := hideP ((hS.block _ (lt_of_block H1.out)).trans H1.out)
  have Hr9 := hideP ((hS.block _ (lt_of_block Hr.out)).trans Hr.out)
  have HBW9 := hideP (HBW.out.trans (hS.mono (Nat.le_of_lt (lt_of_block H0.out))))
  clear hS HG HBW H0 H1 Hr 
  have HG := HG9
  clear HG9
  have HBW := HBW9
  clear HBW9
  have H0 := H09
  clear H09
  have H1 := H19
  clear H19
  have Hr := Hr9
  clear Hr9
  as_aux_lemma =>
    refine wp_seqH (fun K1 HK1 => ?_)
    refine wp_region_list ?_
    have hS := Below.refl x5.heap.size x5
    refine wpList_oper rfl (fun K hK => ?_)
    go_simp
    refine hK _ _ ?_
    clear hK K
    refine wpList_oper rfl (fun K hK => ?_)
    go_simp
    refine hK _ _ ?_
    clear hK K
    refine wpList_nil ?_
    refine HK1.out _ _ ?_
    clear HK1 K1
    clear hS
    refine wp_cond_true rfl ?_
    refine wp_seqH (fun K1 HK1 => ?_)
    refine wp_region_list ?_
    have hS := Below.refl x5.heap.size x5
    refine wpList_oper rfl (fun K hK => ?_)
    go_simp
    refine hK _ _ ?_
    clear hK K
    refine wpList_oper rfl (fun K hK => ?_)
    refine wp_callD (av := #[.int .i64 3]) _ _ 16 rfl rfl (by simp only [List.map_toArray, List.map_cons, List.map_nil]; rfl) (enters_of Tryz.func178 (by kernel_rfl) rfl) (beside_3 ⟨rfl⟩) ?_
    intro x6 hbc
    refine hK _ _ ?_
    clear hK K
    have hS9 := hS.trans (hbc.mono hS.size)
    clear hS hbc
    have hS := hS9
    clear hS9
    simp only [List.set_cons_succ, List.set_cons_zero]
    refine wpList_oper rfl (fun K hK => ?_)
    go_simp
    refine hK _ _ ?_
    clear hK K
    have hQ := (KQ.start Hr.out s_B2).call hS
    refine wpList_store_midD rfl 125 (.tmp 6) (.tmp 16) rfl rfl (B2) 0 (pt (k0) (k0) (true)) rfl rfl (hQ.there (pt_size _ _ _)) (infoPt (pt_size _ _ _)) (pt_one _ _ _) ?_
    have g1 := hQ.put (C := pt (k0) (k0) (true)) (pt_size _ _ _)
    have hS9 := hQ.store (C := pt (k0) (k0) (true)) (pt_size _ _ _)
    clear hS hQ
    have hS := hS9
    clear hS9
    generalize World.setCells _ (B2) 0 (pt (k0) (k0) (true)).toList = x7 at g1 hS ⊢
    refine wpList_oper rfl (fun K hK => ?_)
    go_simp
    refine hK _ _ ?_
    clear hK K
    refine wpList_nil ?_
    refine HK1.out _ _ ?_
    clear HK1 K1
    refine wp_ret ?_
    refine then_ret ?_
    exact bodyPost_ret_by (results_pair rfl rfl rfl (loadC _ B2 0 125 (pt (k0) (k0) (true)) _ (rangeOf g1) underPt rfl (infoPt (pt_size _ _ _)))) rfl ⟨rfl, HBW.out.trans (hS.below.mono (by omega))⟩

set_option maxHeartbeats 4000000 in
set_option maxRecDepth 100000 in
theorem negate_nil (x y : K) (i : Bool) {w : World} (hG : Tv w) : Calls Tryz.prog 119 #[.pointer none, .agg (pt x y i)] w fun e w' => e = .returned (.tuple #[.agg (pt k0 k0 true), .int .i64 3]) ∧ Below w.heap.size w w' := by
  have HG9 := hideP hG
  clear hG
  go_enter Tryz.func119, Tryz.ntmps119
  refine wp_seqH (fun K0 HK0 => ?_)
  go_wp2_with fail
  refine HK0.out _ _ ?_
  clear HK0 K0
  refine at_world (fun W0 hW0 => ?_)
  have hb0 : W0.heap[w.heap.size]? = some (.cells (pt (x) (y) (i)) 125 (0, 0)) := by
    rw [hW0]
    exact ((heap_old _ _ (by simp <;> omega)).trans (heap_new _ _))
  have hbr : ∃ C : Array Value, W0.heap[w.heap.size + 1]? = some (.cells C 125 (0, 0)) ∧ C.size = 9 := by
    rw [hW0]
    exact ⟨_, heap_new1 _ _ _, rfl⟩
  have hbw : Below w.heap.size w W0 := by
    rw [hW0]
    repeat first | exact Below.refl _ _ | (refine Below.alloc ?_ (by simp <;> omega) _)
  clear hW0
  have HG := hideP (HG9.out.below hbw)
  clear HG9
  have HBW := hideP hbw
  clear hbw
  generalize hN : w.heap.size = N at *
  clear hN
  generalize hB1 : N + 1 = B1 at *
  have o1 : N < B1 := by omega
  clear hB1
  have H0 := hideP hb0
  clear hb0
  obtain ⟨Cr, hbr, s_B1⟩ := hbr
  have Hr := hideP hbr
  clear hbr
  refine wp_seqH (fun K2 HK2 => ?_)
  refine wp_seqH (fun K1 HK1 => ?_)
  refine wp_region_list ?_
  have hS := Below.refl W0.heap.size W0
  refine wpList_oper rfl (fun K hK => ?_)
  go_simp
  refine hK _ _ ?_
  clear hK K
  refine wpList_load_midD rfl 125 (.tmp 3) 8 rfl rfl (N) (0) (pt (x) (y) (i)) rfl _ (rangeOf ((hS.block _ (lt_of_block H0.out)).trans H0.out)) underPt rfl (infoPt (pt_size _ _ _)) ?_
  simp only [List.set_cons_succ, List.set_cons_zero]
  refine wpList_oper rfl (fun K hK => ?_)
  refine wp_call2D (.tmp 7) (.tmp 8) _ 9 rfl rfl rfl rfl (enters_of Tryz.func111 (by kernel_rfl) rfl) (good_nil _ _ _ ⟨rfl⟩) ?_
  intro x4 hbc
  refine hK _ _ ?_
  clear hK K
  have hS9 := hS.trans (hbc.mono hS.size)
  clear hS hbc
  have hS := hS9
  clear hS9
  simp only [List.set_cons_succ, List.set_cons_zero]
  refine wpList_oper rfl (fun K hK => ?_)
  go_simp
  refine hK _ _ ?_
  clear hK K
  refine wpList_nil ?_
  refine HK1.out _ _ ?_
  clear HK1 K1
  have HG9 := hideP (HG.out.below hS)
  have H09 := hideP ((hS.block _ (lt_of_block H0.out)).trans H0.out)
  have Hr9 := hideP ((hS.block _ (lt_of_block Hr.out)).trans Hr.out)
  have HBW9 := hideP (HBW.out.trans (hS.mono (Nat.le_of_lt (lt_of_block H0.out))))
  clear hS HG HBW H0 Hr 
  have HG := HG9
  clear HG9
  have HBW := HBW9
  clear HBW9
  have H0 := H09
  clear H09
  have Hr := Hr9
  clear Hr9
  as_aux_lemma =>
    refine wp_seqH (fun K1 HK1 => ?_)
    refine wp_region_list ?_
    have hS := Below.refl x4.heap.size x4
    refine wpList_oper rfl (fun K hK => ?_)
    go_simp
    refine hK _ _ ?_
    clear hK K
    refine wpList_oper rfl (fun K hK => ?_)
    go_simp
    refine hK _ _ ?_
    clear hK K
    refine wpList_nil ?_
    refine HK1.out _ _ ?_
    clear HK1 K1
    clear hS
    refine wp_cond_true rfl ?_
    refine wp_seqH (fun K1 HK1 => ?_)
    refine wp_region_list ?_
    have hS := Below.refl x4.heap.size x4
    refine wpList_oper rfl (fun K hK => ?_)
    go_simp
    refine hK _ _ ?_
    clear hK K
    refine wpList_oper rfl (fun K hK => ?_)
    refine wp_callD (av := #[.int .i64 3]) _ _ 13 rfl rfl (by simp only [List.map_toArray, List.map_cons, List.map_nil]; rfl) (enters_of Tryz.func178 (by kernel_rfl) rfl) (beside_3 ⟨rfl⟩) ?_
    intro x5 hbc
    refine hK _ _ ?_
    clear hK K
    have hS9 := hS.trans (hbc.mono hS.size)
    clear hS hbc
    have hS := hS9
    clear hS9
    simp only [List.set_cons_succ, List.set_cons_zero]
    refine wpList_oper rfl (fun K hK => ?_)
    go_simp
    refine hK _ _ ?_
    clear hK K
    have hQ := (KQ.start Hr.out s_B1).call hS
    refine wpList_store_midD rfl 125 (.tmp 4) (.tmp 13) rfl rfl (B1) 0 (pt (k0) (k0) (true)) rfl rfl (hQ.there (pt_size _ _ _)) (infoPt (pt_size _ _ _)) (pt_one _ _ _) ?_
    have g1 := hQ.put (C := pt (k0) (k0) (true)) (pt_size _ _ _)
    have hS9 := hQ.store (C := pt (k0) (k0) (true)) (pt_size _ _ _)
    clear hS hQ
    have hS := hS9
    clear hS9
    generalize World.setCells _ (B1) 0 (pt (k0) (k0) (true)).toList = x6 at g1 hS ⊢
    refine wpList_oper rfl (fun K hK => ?_)
    go_simp
    refine hK _ _ ?_
    clear hK K
    refine wpList_nil ?_
    refine HK1.out _ _ ?_
    clear HK1 K1
    refine wp_ret ?_
    refine then_ret ?_
    exact bodyPost_ret_by (results_pair rfl rfl rfl (loadC _ B1 0 125 (pt (k0) (k0) (true)) _ (rangeOf g1) underPt rfl (infoPt (pt_size _ _ _)))) rfl ⟨rfl, HBW.out.trans (hS.below.mono (by omega))⟩

set_option maxHeartbeats 4000000 in
set_option maxRecDepth 100000 in
theorem BaseN  {w : World} {v : Value} {M : Nat} (hG : NC w v M) : Calls Tryz.prog 16 #[v] w fun e w' => e = .returned (.agg (pt k0 k0 true)) ∧ Below w.heap.size w w' := by
  have hM := hG.le
  have HG9 := hideP hG
  clear hG
  go_enter Tryz.func16, Tryz.ntmps16
  refine wp_seqH (fun K0 HK0 => ?_)
  go_wp2_with fail
  refine HK0.out _ _ ?_
  clear HK0 K0
  refine at_world (fun W0 hW0 => ?_)
  have hbr : ∃ C : Array Value, W0.heap[w.heap.size]? = some (.cells C 34 (0, 0)) ∧ C.size = 9 := by
    rw [hW0]
    exact ⟨_, heap_new _ _, rfl⟩
  have hbw : Below w.heap.size w W0 := by
    rw [hW0]
    repeat first | exact Below.refl _ _ | (refine Below.alloc ?_ (by simp <;> omega) _)
  clear hW0
  have HG := hideP (HG9.out.below hbw)
  clear HG9
  have HBW := hideP hbw
  clear hbw
  generalize hN : w.heap.size = N at *
  clear hN
  obtain ⟨Cr, hbr, s_N⟩ := hbr
  have Hr := hideP hbr
  clear hbr
  refine wp_seqH (fun K1 HK1 => ?_)
  refine wp_region_list ?_
  have hS := Below.refl W0.heap.size W0
  refine wpList_oper rfl (fun K hK => ?_)
  go_simp
  refine hK _ _ ?_
  clear hK K
  refine wpList_oper rfl (fun K hK => ?_)
  refine wp_callD (av := #[v]) _ _ 4 rfl rfl (by simp only [List.map_toArray, List.map_cons, List.map_nil]; rfl) (enters_of Tryz.func84 (by kernel_rfl) rfl) (group1_none (HG.out.below hS)) ?_
  intro x3 hbc
  refine hK _ _ ?_
  clear hK K
  have hS9 := hS.trans (hbc.mono hS.size)
  clear hS hbc
  have hS := hS9
  clear hS9
  simp only [List.set_cons_succ, List.set_cons_zero]
  refine wpList_oper rfl (fun K hK => ?_)
  refine wp_callD (av := #[.pointer none]) _ _ 5 rfl rfl (by simp only [List.map_toArray, List.map_cons, List.map_nil]; rfl) (enters_of Tryz.func85 (by kernel_rfl) rfl) (generator_nil ⟨rfl⟩) ?_
  intro x4 hbc
  refine hK _ _ ?_
  clear hK K
  have hS9 := hS.trans (hbc.mono hS.size)
  clear hS hbc
  have hS := hS9
  clear hS9
  simp only [List.set_cons_succ, List.set_cons_zero]
  refine wpList_oper rfl (fun K hK => ?_)
  refine wp_callD (av := #[.agg (pt (k0) (k0) (true))]) _ _ 6 rfl rfl (by simp only [List.map_toArray, List.map_cons, List.map_nil]; rfl) (enters_of Tryz.func83 (by kernel_rfl) rfl) (to_any (k0) (k0) (true) _) ?_
  intro x5 hbc
  refine hK _ _ ?_
  clear hK K
  have hS9 := hS.trans (hbc.mono hS.size)
  clear hS hbc
  have hS := hS9
  clear hS9
  simp only [List.set_cons_succ, List.set_cons_zero]
  have hQ := (KQ.start Hr.out s_N).call hS
  refine wpList_store_midD rfl 34 (.tmp 2) (.tmp 6) rfl rfl (N) 0 (pt (k0) (k0) (true)) rfl rfl (hQ.there (pt_size _ _ _)) (infoA (pt_size _ _ _)) (pt_one _ _ _) ?_
  have g1 := hQ.put (C := pt (k0) (k0) (true)) (pt_size _ _ _)
  have hS9 := hQ.store (C := pt (k0) (k0) (true)) (pt_size _ _ _)
  clear hS hQ
  have hS := hS9
  clear hS9
  generalize World.setCells _ (N) 0 (pt (k0) (k0) (true)).toList = x6 at g1 hS ⊢
  refine wpList_nil ?_
  refine HK1.out _ _ ?_
  clear HK1 K1
  refine wp_ret ?_
  exact bodyPost_ret_by (results_cell rfl rfl (loadC _ N 0 34 (pt (k0) (k0) (true)) _ (rangeOf g1) underA rfl (infoA (pt_size _ _ _)))) rfl ⟨rfl, HBW.out.trans (hS.below.mono (by omega))⟩

set_option maxHeartbeats 4000000 in
set_option maxRecDepth 100000 in
theorem GoodN (x y : K) (i : Bool) {w : World} {v : Value} {M : Nat} (hG : NC w v M) : Calls Tryz.prog 35 #[v, .agg (pt x y i)] w fun e w' => e = .returned (.int .i64 3) ∧ Below w.heap.size w w' := by
  have hM := hG.le
  have HG9 := hideP hG
  clear hG
  go_enter Tryz.func35, Tryz.ntmps35
  refine wp_seqH (fun K0 HK0 => ?_)
  go_wp2_with fail
  refine HK0.out _ _ ?_
  clear HK0 K0
  refine at_world (fun W0 hW0 => ?_)
  have hb0 : W0.heap[w.heap.size]? = some (.cells (pt (x) (y) (i)) 34 (0, 0)) := by
    rw [hW0]
    exact (heap_new _ _)
  have hbw : Below w.heap.size w W0 := by
    rw [hW0]
    repeat first | exact Below.refl _ _ | (refine Below.alloc ?_ (by simp <;> omega) _)
  clear hW0
  have HG := hideP (HG9.out.below hbw)
  clear HG9
  have HBW := hideP hbw
  clear hbw
  generalize hN : w.heap.size = N at *
  clear hN
  have H0 := hideP hb0
  clear hb0
  refine wp_seqH (fun K1 HK1 => ?_)
  refine wp_region_heldS (S := fun V => Below W0.heap.size W0 V) (by kernel_rfl) (Below.refl _ _).drew (fun hS => ?_)
  refine wpAnyH_takeL (i := 0) (v := ?_) rfl (by kernel_rfl) (by kernel_rfl) (by kernel_rfl) (fun _ _ _ h => h) (Or.inl ⟨by kernel_rfl, ?_⟩) hS ?_
  rotate_left
  · intro V hV
    go_simp
    (try with_reducible rfl)
  simp only [put_list, List.set_cons_succ, List.set_cons_zero]
  refine wpAnyH_takeL (i := 2) (v := .agg (pt (x) (y) (i))) rfl (by kernel_rfl) (by kernel_rfl) (by kernel_rfl) (fun _ _ _ h => h) (yields_loadC (by kernel_rfl) 34 _ rfl (N) (0) rfl (pt (x) (y) (i)) _ (fun V hV => rangeOf ((hV.block _ (lt_of_block H0.out)).trans H0.out)) underA rfl (infoA (pt_size _ _ _))) hS ?_
  simp only [put_list, List.set_cons_succ, List.set_cons_zero]
  refine wpAnyH_ready (rs := [1]) (by kernel_rfl) (by simp) (AllReadyH.cons rfl (fun K hK => ?_) AllReadyH.nil)
  refine ite_wp (by kernel_rfl) ?_
  refine wp_callD (av := #[v]) _ _ 6 rfl rfl (by simp only [List.map_toArray, List.map_cons, List.map_nil]; rfl) (enters_of Tryz.func84 (by kernel_rfl) rfl) (group1_none (HG.out.below hS)) ?_
  intro x3 hbc
  refine hK.out _ _ (hS.trans (hbc.mono hS.size)) (fun hS => ?_)
  clear hK K hbc
  simp only [List.set_cons_succ, List.set_cons_zero]
  refine wpAnyH_ready (rs := [3]) (by kernel_rfl) (by simp) (AllReadyH.cons rfl (fun K hK => ?_) AllReadyH.nil)
  refine ite_wp (by kernel_rfl) ?_
  refine wp_callD (av := #[.agg (pt (x) (y) (i))]) _ _ 8 rfl rfl (by simp only [List.map_toArray, List.map_cons, List.map_nil]; rfl) (enters_of Tryz.func103 (by kernel_rfl) rfl) (from_any (x) (y) (i) _) ?_
  intro x4 hbc
  refine hK.out _ _ (hS.trans (hbc.mono hS.size)) (fun hS => ?_)
  clear hK K hbc
  simp only [List.set_cons_succ, List.set_cons_zero]
  refine wpAnyH_ready (rs := [4]) (by kernel_rfl) (by simp) (AllReadyH.cons rfl (fun K hK => ?_) AllReadyH.nil)
  refine ite_wp (by kernel_rfl) ?_
  refine wp_call2D (.tmp 6) (.tmp 8) _ 9 rfl rfl rfl rfl (enters_of Tryz.func111 (by kernel_rfl) rfl) (good_nil _ _ _ ⟨rfl⟩) ?_
  intro x5 hbc
  refine hK.out _ _ (hS.trans (hbc.mono hS.size)) (fun hS => ?_)
  clear hK K hbc
  simp only [List.set_cons_succ, List.set_cons_zero]
  refine wpAnyH_takeL (i := 5) (v := ?_) rfl (by kernel_rfl) (by kernel_rfl) (by kernel_rfl) (fun _ _ _ h => h) (Or.inl ⟨by kernel_rfl, ?_⟩) hS ?_
  rotate_left
  · intro V hV
    go_simp
    (try with_reducible rfl)
  simp only [put_list, List.set_cons_succ, List.set_cons_zero]
  refine wpAnyH_done (by kernel_rfl) ?_ _
  (try simp only [put_none])
  refine HK1.out _ _ ?_
  clear HK1 K1
  have HG9 := hideP (HG.out.below hS)
  have H09 := hideP ((hS.block _ (lt_of_block H0.out)).trans H0.out)
  have HBW9 := hideP (HBW.out.trans (hS.mono (Nat.le_of_lt (lt_of_block H0.out))))
  clear hS HG HBW H0 
  have HG := HG9
  clear HG9
  have HBW := HBW9
  clear HBW9
  have H0 := H09
  clear H09
  as_aux_lemma =>
    refine wp_ret ?_
    exact bodyPost_ret_by (results_tmp rfl _ _ _) rfl ⟨rfl, HBW.out⟩

set_option maxHeartbeats 4000000 in
set_option maxRecDepth 100000 in
theorem AddN (x y : K) (i : Bool) (x2 y2 : K) (i2 : Bool) {w : World} {v : Value} {M : Nat} (hG : NC w v M) : Calls Tryz.prog 38 #[v, .agg (pt x y i), .agg (pt x2 y2 i2)] w fun e w' => e = .returned (.tuple #[.agg (pt k0 k0 true), .int .i64 3]) ∧ Below w.heap.size w w' := by
  have hM := hG.le
  have HG9 := hideP hG
  clear hG
  go_enter Tryz.func38, Tryz.ntmps38
  refine wp_seqH (fun K0 HK0 => ?_)
  go_wp2_with fail
  refine HK0.out _ _ ?_
  clear HK0 K0
  refine at_world (fun W0 hW0 => ?_)
  have hb0 : W0.heap[w.heap.size]? = some (.cells (pt (x) (y) (i)) 34 (0, 0)) := by
    rw [hW0]
    exact ((heap_old _ _ (by simp <;> omega)).trans ((heap_old _ _ (by simp <;> omega)).trans (heap_new _ _)))
  have hb1 : W0.heap[w.heap.size + 1]? = some (.cells (pt (x2) (y2) (i2)) 34 (0, 0)) := by
    rw [hW0]
    exact ((heap_old _ _ (by simp <;> omega)).trans (heap_new1 _ _ _))
  have hbr : ∃ C : Array Value, W0.heap[w.heap.size + 1 + 1]? = some (.cells C 34 (0, 0)) ∧ C.size = 9 := by
    rw [hW0]
    exact ⟨_, heap_new2 _ _ _ _, rfl⟩
  have hbw : Below w.heap.size w W0 := by
    rw [hW0]
    repeat first | exact Below.refl _ _ | (refine Below.alloc ?_ (by simp <;> omega) _)
  clear hW0
  have HG := hideP (HG9.out.below hbw)
  clear HG9
  have HBW := hideP hbw
  clear hbw
  generalize hN : w.heap.size = N at *
  clear hN
  generalize hB1 : N + 1 = B1 at *
  generalize hB2 : B1 + 1 = B2 at *
  have o1 : N < B1 := by omega
  have o2 : B1 < B2 := by omega
  clear hB2
  clear hB1
  have H0 := hideP hb0
  clear hb0
  have H1 := hideP hb1
  clear hb1
  obtain ⟨Cr, hbr, s_B2⟩ := hbr
  have Hr := hideP hbr
  clear hbr
  refine wp_seqH (fun K1 HK1 => ?_)
  refine wp_region_heldS (S := fun V => Below W0.heap.size W0 V) (by kernel_rfl) (Below.refl _ _).drew (fun hS => ?_)
  refine wpAnyH_takeL (i := 0) (v := ?_) rfl (by kernel_rfl) (by kernel_rfl) (by kernel_rfl) (fun _ _ _ h => h) (Or.inl ⟨by kernel_rfl, ?_⟩) hS ?_
  rotate_left
  · intro V hV
    go_simp
    (try with_reducible rfl)
  simp only [put_list, List.set_cons_succ, List.set_cons_zero]
  refine wpAnyH_takeL (i := 2) (v := .agg (pt (x) (y) (i))) rfl (by kernel_rfl) (by kernel_rfl) (by kernel_rfl) (fun _ _ _ h => h) (yields_loadC (by kernel_rfl) 34 _ rfl (N) (0) rfl (pt (x) (y) (i)) _ (fun V hV => rangeOf ((hV.block _ (lt_of_block H0.out)).trans H0.out)) underA rfl (infoA (pt_size _ _ _))) hS ?_
  simp only [put_list, List.set_cons_succ, List.set_cons_zero]
  refine wpAnyH_takeL (i := 4) (v := .agg (pt (x2) (y2) (i2))) rfl (by kernel_rfl) (by kernel_rfl) (by kernel_rfl) (fun _ _ _ h => h) (yields_loadC (by kernel_rfl) 34 _ rfl (B1) (0) rfl (pt (x2) (y2) (i2)) _ (fun V hV => rangeOf ((hV.block _ (lt_of_block H1.out)).trans H1.out)) underA rfl (infoA (pt_size _ _ _))) hS ?_
  simp only [put_list, List.set_cons_succ, List.set_cons_zero]

  refine regionR (r := 2) 3 4 (fun jz => match jz with | 0 => 1 | 1 => 3 | 2 => 5 | _ => 6) (fun jz => match jz with | 0 => 12 | 1 => 14 | 2 => 16 | _ => 17) (fun jz => match jz with | 0 => .pointer none | 1 => .agg (pt (x) (y) (i)) | 2 => .agg (pt (x2) (y2) (i2)) | _ => .tuple #[.agg (pt (k0) (k0) (true)), .int .i64 3]) (fun iz pz => #[true, decide (0 < iz), true, decide (1 < iz), true, decide (2 < iz), decide (3 < iz), false, false, false, pz, false, false] : Nat → Bool → Array Bool) (fun pz => #[true, true, true, true, true, true, true, true, true, true, pz, false, false] : Bool → Array Bool) ?Tq #[.int .u64 0, .int .u64 0, .int .u64 0, .int .u64 0, .int .u64 0, .int .u64 0, .int .u64 0, .int .u64 0, .bool false] 125 10 8 (by kernel_rfl) (by decide) (by kernel_rfl) hS ?hc ?h1 ?hq0 ?hq1 ?hend
  case hc =>
    intro iz hi T w2 K hW2 hT hK
    match iz, hi with
    | 0, _ =>
      have t11 : T[11]? = some (v) := hT 11 (by decide)
      refine wpOp_stepT (i := 1) rfl (fun K' hK' => ?_)
      refine ite_wp (by kernel_rfl) ?_
      refine wp_callD (av := #[v]) _ _ 12 rfl rfl (by simp only [List.map_toArray, List.map_cons, List.map_nil, eval_get t11]) (enters_of Tryz.func84 (by kernel_rfl) rfl) (group1_none (HG.out.below hW2)) ?_
      intro w3 hb
      exact hK' _ _ (hK w3 hb)
    | 1, _ =>
      have t13 : T[13]? = some (.agg (pt (x) (y) (i))) := hT 13 (by decide)
      refine wpOp_stepT (i := 3) rfl (fun K' hK' => ?_)
      refine ite_wp (by kernel_rfl) ?_
      refine wp_callD (av := #[.agg (pt (x) (y) (i))]) _ _ 14 rfl rfl (by simp only [List.map_toArray, List.map_cons, List.map_nil, eval_get t13]) (enters_of Tryz.func103 (by kernel_rfl) rfl) (from_any (x) (y) (i) _) ?_
      intro w3 hb
      exact hK' _ _ (hK w3 hb)
    | 2, _ =>
      have t15 : T[15]? = some (.agg (pt (x2) (y2) (i2))) := hT 15 (by decide)
      refine wpOp_stepT (i := 5) rfl (fun K' hK' => ?_)
      refine ite_wp (by kernel_rfl) ?_
      refine wp_callD (av := #[.agg (pt (x2) (y2) (i2))]) _ _ 16 rfl rfl (by simp only [List.map_toArray, List.map_cons, List.map_nil, eval_get t15]) (enters_of Tryz.func103 (by kernel_rfl) rfl) (from_any (x2) (y2) (i2) _) ?_
      intro w3 hb
      exact hK' _ _ (hK w3 hb)
    | 3, _ =>
      have t12 : T[12]? = some (.pointer none) := hT 12 (by decide)
      have t14 : T[14]? = some (.agg (pt (x) (y) (i))) := hT 14 (by decide)
      have t16 : T[16]? = some (.agg (pt (x2) (y2) (i2))) := hT 16 (by decide)
      refine wpOp_stepT (i := 6) rfl (fun K' hK' => ?_)
      refine ite_wp (by kernel_rfl) ?_
      refine wp_callD (av := #[.pointer none, .agg (pt (x) (y) (i)), .agg (pt (x2) (y2) (i2))]) _ _ 17 rfl rfl (by simp only [List.map_toArray, List.map_cons, List.map_nil, eval_get t12, eval_get t14, eval_get t16]) (enters_of Tryz.func117 (by kernel_rfl) rfl) (add_nil _ _ _ _ _ _ ⟨rfl⟩) ?_
      intro w3 hb
      exact hK' _ _ (hK w3 hb)
    | k' + 4, h => exact absurd h (by omega)
  case h1 =>
    intro T w2 K hK
    refine wpOp_stepT rfl (fun K' hK' => ?_)
    have HK' := hideP hK'
    have HK9 := hideP hK
    clear hK hK'
    go_simp
    exact HK'.out _ _ HK9.out
  case hq0 =>
    intro w2 hS hq
    simp only [TC, List.set_cons_succ, List.set_cons_zero]
    refine wpAnyH_takeL (i := 7) (v := ?_) rfl (by kernel_rfl) (by kernel_rfl) (by kernel_rfl) (fun _ _ _ h => h) (Or.inl ⟨by kernel_rfl, ?_⟩) hS ?_
    rotate_left
    · intro V hV
      go_simp
      (try with_reducible rfl)
    simp only [put_list, List.set_cons_succ, List.set_cons_zero]
    refine wpAnyH_takeL (i := 8) (v := ?_) rfl (by kernel_rfl) (by kernel_rfl) (by kernel_rfl) (fun _ _ _ h => h) (Or.inl ⟨by kernel_rfl, ?_⟩) hS ?_
    rotate_left
    · intro V hV
      go_simp
      (try with_reducible rfl)
    simp only [put_list, List.set_cons_succ, List.set_cons_zero]
    refine wpAnyH_takeL (i := 9) (v := ?_) rfl (by kernel_rfl) (by kernel_rfl) (by kernel_rfl) (fun _ _ _ h => h) (Or.inl ⟨by kernel_rfl, ?_⟩) hS ?_
    rotate_left
    · intro V hV
      go_simp
      (try with_reducible rfl)
    simp only [put_list, List.set_cons_succ, List.set_cons_zero]
    exact hq
  case hq1 =>
    intro w2 b1 hS hq
    simp only [TC, List.set_cons_succ, List.set_cons_zero]
    refine wpAnyH_takeL (i := 7) (v := ?_) rfl (by kernel_rfl) (by kernel_rfl) (by kernel_rfl) (fun _ _ _ h => h) (Or.inl ⟨by kernel_rfl, ?_⟩) hS ?_
    rotate_left
    · intro V hV
      go_simp
      (try with_reducible rfl)
    simp only [put_list, List.set_cons_succ, List.set_cons_zero]
    refine wpAnyH_takeL (i := 8) (v := ?_) rfl (by kernel_rfl) (by kernel_rfl) (by kernel_rfl) (fun _ _ _ h => h) (Or.inl ⟨by kernel_rfl, ?_⟩) hS ?_
    rotate_left
    · intro V hV
      go_simp
      (try with_reducible rfl)
    simp only [put_list, List.set_cons_succ, List.set_cons_zero]
    refine wpAnyH_takeL (i := 9) (v := ?_) rfl (by kernel_rfl) (by kernel_rfl) (by kernel_rfl) (fun _ _ _ h => h) (Or.inl ⟨by kernel_rfl, ?_⟩) hS ?_
    rotate_left
    · intro V hV
      go_simp
      (try with_reducible rfl)
    simp only [put_list, List.set_cons_succ, List.set_cons_zero]
    exact hq
  intro x6 B5 hS lB5 hB5
  simp only [List.set_cons_succ, List.set_cons_zero]
  refine wpAnyH_ready (rs := [11]) (by kernel_rfl) (by simp) (AllReadyH.cons rfl (fun K hK => ?_) AllReadyH.nil)
  refine ite_wp (by kernel_rfl) ?_
  refine wp_store_midN 125 (.tmp 8) (.tmp 18) rfl rfl (B5) 0 (pt (k0) (k0) (true)) rfl rfl (there_of hB5 (zcp_size.trans (pt_size _ _ _).symm)) (infoPt (pt_size _ _ _)) (pt_one _ _ _) ?_
  have hB59 := blk_sets (pt (k0) (k0) (true)).toList 0 hB5
  rw [putAll_eq (zcp_size.trans (pt_size _ _ _).symm)] at hB59
  have hB1 := But.sets (pt (k0) (k0) (true)).toList 0 (But.refl B5 x6)
  have hSB := hS.trans (hB1.below.mono lB5)
  clear hB1 hB5
  have hB5 := hB59
  clear hB59
  generalize World.setCells x6 B5 0 (pt (k0) (k0) (true)).toList = x7 at *
  refine hK.out _ _ hSB (fun hS => ?_)
  clear hK K hSB
  refine wpAnyH_takeL (i := 12) (v := ?_) rfl (by kernel_rfl) (by kernel_rfl) (by kernel_rfl) (fun _ _ _ h => h) (Or.inl ⟨by kernel_rfl, ?_⟩) hS ?_
  rotate_left
  · intro V hV
    go_simp
    (try with_reducible rfl)
  simp only [put_list, List.set_cons_succ, List.set_cons_zero]
  refine wpAnyH_done (by kernel_rfl) ?_ _
  (try simp only [put_none])
  refine HK1.out _ _ ?_
  clear HK1 K1
  have HG9 := hideP (HG.out.below hS)
  have H09 := hideP ((hS.block _ (lt_of_block H0.out)).trans H0.out)
  have H19 := hideP ((hS.block _ (lt_of_block H1.out)).trans H1.out)
  have Hr9 := hideP ((hS.block _ (lt_of_block Hr.out)).trans Hr.out)
  have HBW9 := hideP (HBW.out.trans (hS.mono (Nat.le_of_lt (lt_of_block H0.out))))
  have oB5 : B2 < B5 := by have := lt_of_block Hr.out; omega
  clear hS HG HBW H0 H1 Hr lB5
  have HG := HG9
  clear HG9
  have HBW := HBW9
  clear HBW9
  have H0 := H09
  clear H09
  have H1 := H19
  clear H19
  have Hr := Hr9
  clear Hr9
  have HB5 := hideP hB5
  clear hB5
  as_aux_lemma =>
    refine wp_seqH (fun K1 HK1 => ?_)
    refine wp_region_list ?_
    have hS := Below.refl x7.heap.size x7
    refine wpList_load_midD rfl 125 (.tmp 8) 20 rfl rfl (B5) (0) (pt (k0) (k0) (true)) rfl _ (rangeOf ((hS.block _ (lt_of_block HB5.out)).trans HB5.out)) underPt rfl (infoPt (pt_size _ _ _)) ?_
    simp only [List.set_cons_succ, List.set_cons_zero]
    refine wpList_oper rfl (fun K hK => ?_)
    refine wp_callD (av := #[.agg (pt (k0) (k0) (true))]) _ _ 21 rfl rfl (by simp only [List.map_toArray, List.map_cons, List.map_nil]; rfl) (enters_of Tryz.func83 (by kernel_rfl) rfl) (to_any (k0) (k0) (true) _) ?_
    intro x8 hbc
    refine hK _ _ ?_
    clear hK K
    have hS9 := hS.trans (hbc.mono hS.size)
    clear hS hbc
    have hS := hS9
    clear hS9
    simp only [List.set_cons_succ, List.set_cons_zero]
    refine wpList_oper rfl (fun K hK => ?_)
    go_simp
    refine hK _ _ ?_
    clear hK K
    have hQ := (KQ.start Hr.out s_B2).call hS
    refine wpList_store_midD rfl 34 (.tmp 6) (.tmp 21) rfl rfl (B2) 0 (pt (k0) (k0) (true)) rfl rfl (hQ.there (pt_size _ _ _)) (infoA (pt_size _ _ _)) (pt_one _ _ _) ?_
    have g1 := hQ.put (C := pt (k0) (k0) (true)) (pt_size _ _ _)
    have hS9 := hQ.store (C := pt (k0) (k0) (true)) (pt_size _ _ _)
    clear hS hQ
    have hS := hS9
    clear hS9
    generalize World.setCells _ (B2) 0 (pt (k0) (k0) (true)).toList = x9 at g1 hS ⊢
    refine wpList_oper rfl (fun K hK => ?_)
    go_simp
    refine hK _ _ ?_
    clear hK K
    refine wpList_nil ?_
    refine HK1.out _ _ ?_
    clear HK1 K1
    refine wp_ret ?_
    exact bodyPost_ret_by (results_pair rfl rfl rfl (loadC _ B2 0 34 (pt (k0) (k0) (true)) _ (rangeOf g1) underA rfl (infoA (pt_size _ _ _)))) rfl ⟨rfl, HBW.out.trans (hS.below.mono (by omega))⟩

set_option maxHeartbeats 4000000 in
set_option maxRecDepth 100000 in
theorem NegN (x y : K) (i : Bool) {w : World} {v : Value} {M : Nat} (hG : NC w v M) : Calls Tryz.prog 41 #[v, .agg (pt x y i)] w fun e w' => e = .returned (.tuple #[.agg (pt k0 k0 true), .int .i64 3]) ∧ Below w.heap.size w w' := by
  have hM := hG.le
  have HG9 := hideP hG
  clear hG
  go_enter Tryz.func41, Tryz.ntmps41
  refine wp_seqH (fun K0 HK0 => ?_)
  go_wp2_with fail
  refine HK0.out _ _ ?_
  clear HK0 K0
  refine at_world (fun W0 hW0 => ?_)
  have hb0 : W0.heap[w.heap.size]? = some (.cells (pt (x) (y) (i)) 34 (0, 0)) := by
    rw [hW0]
    exact ((heap_old _ _ (by simp <;> omega)).trans (heap_new _ _))
  have hbr : ∃ C : Array Value, W0.heap[w.heap.size + 1]? = some (.cells C 34 (0, 0)) ∧ C.size = 9 := by
    rw [hW0]
    exact ⟨_, heap_new1 _ _ _, rfl⟩
  have hbw : Below w.heap.size w W0 := by
    rw [hW0]
    repeat first | exact Below.refl _ _ | (refine Below.alloc ?_ (by simp <;> omega) _)
  clear hW0
  have HG := hideP (HG9.out.below hbw)
  clear HG9
  have HBW := hideP hbw
  clear hbw
  generalize hN : w.heap.size = N at *
  clear hN
  generalize hB1 : N + 1 = B1 at *
  have o1 : N < B1 := by omega
  clear hB1
  have H0 := hideP hb0
  clear hb0
  obtain ⟨Cr, hbr, s_B1⟩ := hbr
  have Hr := hideP hbr
  clear hbr
  refine wp_seqH (fun K1 HK1 => ?_)
  refine wp_region_heldS (S := fun V => Below W0.heap.size W0 V) (by kernel_rfl) (Below.refl _ _).drew (fun hS => ?_)
  refine wpAnyH_takeL (i := 0) (v := ?_) rfl (by kernel_rfl) (by kernel_rfl) (by kernel_rfl) (fun _ _ _ h => h) (Or.inl ⟨by kernel_rfl, ?_⟩) hS ?_
  rotate_left
  · intro V hV
    go_simp
    (try with_reducible rfl)
  simp only [put_list, List.set_cons_succ, List.set_cons_zero]
  refine wpAnyH_takeL (i := 2) (v := .agg (pt (x) (y) (i))) rfl (by kernel_rfl) (by kernel_rfl) (by kernel_rfl) (fun _ _ _ h => h) (yields_loadC (by kernel_rfl) 34 _ rfl (N) (0) rfl (pt (x) (y) (i)) _ (fun V hV => rangeOf ((hV.block _ (lt_of_block H0.out)).trans H0.out)) underA rfl (infoA (pt_size _ _ _))) hS ?_
  simp only [put_list, List.set_cons_succ, List.set_cons_zero]

  refine regionR (r := 2) 3 3 (fun jz => match jz with | 0 => 1 | 1 => 3 | _ => 4) (fun jz => match jz with | 0 => 10 | 1 => 12 | _ => 13) (fun jz => match jz with | 0 => .pointer none | 1 => .agg (pt (x) (y) (i)) | _ => .tuple #[.agg (pt (k0) (k0) (true)), .int .i64 3]) (fun iz pz => #[true, decide (0 < iz), true, decide (1 < iz), decide (2 < iz), false, false, false, pz, false, false] : Nat → Bool → Array Bool) (fun pz => #[true, true, true, true, true, true, true, true, pz, false, false] : Bool → Array Bool) ?Tq #[.int .u64 0, .int .u64 0, .int .u64 0, .int .u64 0, .int .u64 0, .int .u64 0, .int .u64 0, .int .u64 0, .bool false] 125 8 6 (by kernel_rfl) (by decide) (by kernel_rfl) hS ?hc ?h1 ?hq0 ?hq1 ?hend
  case hc =>
    intro iz hi T w2 K hW2 hT hK
    match iz, hi with
    | 0, _ =>
      have t9 : T[9]? = some (v) := hT 9 (by decide)
      refine wpOp_stepT (i := 1) rfl (fun K' hK' => ?_)
      refine ite_wp (by kernel_rfl) ?_
      refine wp_callD (av := #[v]) _ _ 10 rfl rfl (by simp only [List.map_toArray, List.map_cons, List.map_nil, eval_get t9]) (enters_of Tryz.func84 (by kernel_rfl) rfl) (group1_none (HG.out.below hW2)) ?_
      intro w3 hb
      exact hK' _ _ (hK w3 hb)
    | 1, _ =>
      have t11 : T[11]? = some (.agg (pt (x) (y) (i))) := hT 11 (by decide)
      refine wpOp_stepT (i := 3) rfl (fun K' hK' => ?_)
      refine ite_wp (by kernel_rfl) ?_
      refine wp_callD (av := #[.agg (pt (x) (y) (i))]) _ _ 12 rfl rfl (by simp only [List.map_toArray, List.map_cons, List.map_nil, eval_get t11]) (enters_of Tryz.func103 (by kernel_rfl) rfl) (from_any (x) (y) (i) _) ?_
      intro w3 hb
      exact hK' _ _ (hK w3 hb)
    | 2, _ =>
      have t10 : T[10]? = some (.pointer none) := hT 10 (by decide)
      have t12 : T[12]? = some (.agg (pt (x) (y) (i))) := hT 12 (by decide)
      refine wpOp_stepT (i := 4) rfl (fun K' hK' => ?_)
      refine ite_wp (by kernel_rfl) ?_
      refine wp_call2D (.tmp 10) (.tmp 12) _ 13 rfl rfl (eval_get t10) (eval_get t12) (enters_of Tryz.func119 (by kernel_rfl) rfl) (negate_nil _ _ _ ⟨rfl⟩) ?_
      intro w3 hb
      exact hK' _ _ (hK w3 hb)
    | k' + 3, h => exact absurd h (by omega)
  case h1 =>
    intro T w2 K hK
    refine wpOp_stepT rfl (fun K' hK' => ?_)
    have HK' := hideP hK'
    have HK9 := hideP hK
    clear hK hK'
    go_simp
    exact HK'.out _ _ HK9.out
  case hq0 =>
    intro w2 hS hq
    simp only [TC, List.set_cons_succ, List.set_cons_zero]
    refine wpAnyH_takeL (i := 5) (v := ?_) rfl (by kernel_rfl) (by kernel_rfl) (by kernel_rfl) (fun _ _ _ h => h) (Or.inl ⟨by kernel_rfl, ?_⟩) hS ?_
    rotate_left
    · intro V hV
      go_simp
      (try with_reducible rfl)
    simp only [put_list, List.set_cons_succ, List.set_cons_zero]
    refine wpAnyH_takeL (i := 6) (v := ?_) rfl (by kernel_rfl) (by kernel_rfl) (by kernel_rfl) (fun _ _ _ h => h) (Or.inl ⟨by kernel_rfl, ?_⟩) hS ?_
    rotate_left
    · intro V hV
      go_simp
      (try with_reducible rfl)
    simp only [put_list, List.set_cons_succ, List.set_cons_zero]
    refine wpAnyH_takeL (i := 7) (v := ?_) rfl (by kernel_rfl) (by kernel_rfl) (by kernel_rfl) (fun _ _ _ h => h) (Or.inl ⟨by kernel_rfl, ?_⟩) hS ?_
    rotate_left
    · intro V hV
      go_simp
      (try with_reducible rfl)
    simp only [put_list, List.set_cons_succ, List.set_cons_zero]
    exact hq
  case hq1 =>
    intro w2 b1 hS hq
    simp only [TC, List.set_cons_succ, List.set_cons_zero]
    refine wpAnyH_takeL (i := 5) (v := ?_) rfl (by kernel_rfl) (by kernel_rfl) (by kernel_rfl) (fun _ _ _ h => h) (Or.inl ⟨by kernel_rfl, ?_⟩) hS ?_
    rotate_left
    · intro V hV
      go_simp
      (try with_reducible rfl)
    simp only [put_list, List.set_cons_succ, List.set_cons_zero]
    refine wpAnyH_takeL (i := 6) (v := ?_) rfl (by kernel_rfl) (by kernel_rfl) (by kernel_rfl) (fun _ _ _ h => h) (Or.inl ⟨by kernel_rfl, ?_⟩) hS ?_
    rotate_left
    · intro V hV
      go_simp
      (try with_reducible rfl)
    simp only [put_list, List.set_cons_succ, List.set_cons_zero]
    refine wpAnyH_takeL (i := 7) (v := ?_) rfl (by kernel_rfl) (by kernel_rfl) (by kernel_rfl) (fun _ _ _ h => h) (Or.inl ⟨by kernel_rfl, ?_⟩) hS ?_
    rotate_left
    · intro V hV
      go_simp
      (try with_reducible rfl)
    simp only [put_list, List.set_cons_succ, List.set_cons_zero]
    exact hq
  intro x5 B4 hS lB4 hB4
  simp only [List.set_cons_succ, List.set_cons_zero]
  refine wpAnyH_ready (rs := [9]) (by kernel_rfl) (by simp) (AllReadyH.cons rfl (fun K hK => ?_) AllReadyH.nil)
  refine ite_wp (by kernel_rfl) ?_
  refine wp_store_midN 125 (.tmp 6) (.tmp 14) rfl rfl (B4) 0 (pt (k0) (k0) (true)) rfl rfl (there_of hB4 (zcp_size.trans (pt_size _ _ _).symm)) (infoPt (pt_size _ _ _)) (pt_one _ _ _) ?_
  have hB49 := blk_sets (pt (k0) (k0) (true)).toList 0 hB4
  rw [putAll_eq (zcp_size.trans (pt_size _ _ _).symm)] at hB49
  have hB1 := But.sets (pt (k0) (k0) (true)).toList 0 (But.refl B4 x5)
  have hSB := hS.trans (hB1.below.mono lB4)
  clear hB1 hB4
  have hB4 := hB49
  clear hB49
  generalize World.setCells x5 B4 0 (pt (k0) (k0) (true)).toList = x6 at *
  refine hK.out _ _ hSB (fun hS => ?_)
  clear hK K hSB
  refine wpAnyH_takeL (i := 10) (v := ?_) rfl (by kernel_rfl) (by kernel_rfl) (by kernel_rfl) (fun _ _ _ h => h) (Or.inl ⟨by kernel_rfl, ?_⟩) hS ?_
  rotate_left
  · intro V hV
    go_simp
    (try with_reducible rfl)
  simp only [put_list, List.set_cons_succ, List.set_cons_zero]
  refine wpAnyH_done (by kernel_rfl) ?_ _
  (try simp only [put_none])
  refine HK1.out _ _ ?_
  clear HK1 K1
  have HG9 := hideP (HG.out.below hS)
  have H09 := hideP ((hS.block _ (lt_of_block H0.out)).trans H0.out)
  have Hr9 := hideP ((hS.block _ (lt_of_block Hr.out)).trans Hr.out)
  have HBW9 := hideP (HBW.out.trans (hS.mono (Nat.le_of_lt (lt_of_block H0.out))))
  have oB4 : B1 < B4 := by have := lt_of_block Hr.out; omega
  clear hS HG HBW H0 Hr lB4
  have HG := HG9
  clear HG9
  have HBW := HBW9
  clear HBW9
  have H0 := H09
  clear H09
  have Hr := Hr9
  clear Hr9
  have HB4 := hideP hB4
  clear hB4
  as_aux_lemma =>
    refine wp_seqH (fun K1 HK1 => ?_)
    refine wp_region_list ?_
    have hS := Below.refl x6.heap.size x6
    refine wpList_load_midD rfl 125 (.tmp 6) 16 rfl rfl (B4) (0) (pt (k0) (k0) (true)) rfl _ (rangeOf ((hS.block _ (lt_of_block HB4.out)).trans HB4.out)) underPt rfl (infoPt (pt_size _ _ _)) ?_
    simp only [List.set_cons_succ, List.set_cons_zero]
    refine wpList_oper rfl (fun K hK => ?_)
    refine wp_callD (av := #[.agg (pt (k0) (k0) (true))]) _ _ 17 rfl rfl (by simp only [List.map_toArray, List.map_cons, List.map_nil]; rfl) (enters_of Tryz.func83 (by kernel_rfl) rfl) (to_any (k0) (k0) (true) _) ?_
    intro x7 hbc
    refine hK _ _ ?_
    clear hK K
    have hS9 := hS.trans (hbc.mono hS.size)
    clear hS hbc
    have hS := hS9
    clear hS9
    simp only [List.set_cons_succ, List.set_cons_zero]
    refine wpList_oper rfl (fun K hK => ?_)
    go_simp
    refine hK _ _ ?_
    clear hK K
    have hQ := (KQ.start Hr.out s_B1).call hS
    refine wpList_store_midD rfl 34 (.tmp 4) (.tmp 17) rfl rfl (B1) 0 (pt (k0) (k0) (true)) rfl rfl (hQ.there (pt_size _ _ _)) (infoA (pt_size _ _ _)) (pt_one _ _ _) ?_
    have g1 := hQ.put (C := pt (k0) (k0) (true)) (pt_size _ _ _)
    have hS9 := hQ.store (C := pt (k0) (k0) (true)) (pt_size _ _ _)
    clear hS hQ
    have hS := hS9
    clear hS9
    generalize World.setCells _ (B1) 0 (pt (k0) (k0) (true)).toList = x8 at g1 hS ⊢
    refine wpList_oper rfl (fun K hK => ?_)
    go_simp
    refine hK _ _ ?_
    clear hK K
    refine wpList_nil ?_
    refine HK1.out _ _ ?_
    clear HK1 K1
    refine wp_ret ?_
    exact bodyPost_ret_by (results_pair rfl rfl rfl (loadC _ B1 0 34 (pt (k0) (k0) (true)) _ (rangeOf g1) underA rfl (infoA (pt_size _ _ _)))) rfl ⟨rfl, HBW.out.trans (hS.below.mono (by omega))⟩

end Go.Proofs.YtppijhcfodccfaaGreat.P4
