/-
  Whether a point is good.
-/
import Derived.Test.YtppijhcfodccfaaGreatCurveNoneC21
import Derived.Test.YtppijhcfodccfaaGreatCurveNoneC04
namespace Go.Proofs.YtppijhcfodccfaaGreat.P4
open Go.RowKit Go.Shelf

theorem isBelow_yes {w : World} {g p m : Nat} {b : K} (hG : GAt w g p m b) (x : K) (hx : Fits x) (h : rest m x = x) : Calls Tryz.prog 173 #[.pointer (some ⟨g, 0, none⟩), .agg (nv x)] w fun e w' => e = .returned (.bool true) ∧ Below w.heap.size w w' := by
  have := isBelow_any hG x hx
  rw [decide_eq_true h] at this
  exact this

theorem isBelow_no {w : World} {g p m : Nat} {b : K} (hG : GAt w g p m b) (x : K) (hx : Fits x) (h : ¬ rest m x = x) : Calls Tryz.prog 173 #[.pointer (some ⟨g, 0, none⟩), .agg (nv x)] w fun e w' => e = .returned (.bool false) ∧ Below w.heap.size w w' := by
  have := isBelow_any hG x hx
  rw [decide_eq_false h] at this
  exact this

set_option maxHeartbeats 4000000 in
set_option maxRecDepth 100000 in
theorem good_inf {w : World} {g p m : Nat} {b : K} (hG : GAt w g p m b) (x y : K) (hx : Fits x) (hy : Fits y) (hq : (decide (x = k0) && (decide (y = k0) && (true == true))) = true) : Calls Tryz.prog 111 #[.pointer (some ⟨g, 0, none⟩), .agg (pt x y true)] w fun e w' => e = .returned (.int .i64 0) ∧ Below w.heap.size w w' := by
  have hg := hG.glt
  have hp := hG.plt
  have HG9 := hideP hG
  clear hG
  go_enter Tryz.func111, Tryz.ntmps111
  refine wp_seqH (fun K0 HK0 => ?_)
  go_wp2_with fail
  refine HK0.out _ _ ?_
  clear HK0 K0
  refine at_world (fun W0 hW0 => ?_)
  have hb0 : W0.heap[w.heap.size]? = some (.cells (pt (x) (y) (true)) 125 (0, 0)) := by
    rw [hW0]
    exact (heap_new _ _)
  have hbw : Below w.heap.size w W0 := by
    rw [hW0]
    repeat first | exact Below.refl _ _ | (refine Below.alloc ?_ (by simp <;> omega) _)
  clear hW0
  have HG := hideP (HG9.out.below hbw)
  clear HG9
  have HBW := hideP hbw
  clear hbw
  generalize hN : w.heap.size = N at *
  clear hN
  have H0 := hideP hb0
  clear hb0
  refine wp_seqH (fun K2 HK2 => ?_)
  refine wp_seqH (fun K1 HK1 => ?_)
  refine wp_region_list ?_
  have hS := Below.refl W0.heap.size W0
  refine wpList_oper rfl (fun K hK => ?_)
  go_simp
  refine hK _ _ ?_
  clear hK K
  refine wpList_oper rfl (fun K hK => ?_)
  go_simp
  refine hK _ _ ?_
  clear hK K
  refine wpList_nil ?_
  refine HK1.out _ _ ?_
  clear HK1 K1
  clear hS
  refine wp_cond_false rfl ?_
  refine wp_skip ?_
  refine HK2.out _ _ ?_
  clear HK2 K2
  refine wp_seqH (fun K2 HK2 => ?_)
  refine wp_seqH (fun K1 HK1 => ?_)
  refine wp_region_list ?_
  have hS := Below.refl W0.heap.size W0
  refine wpList_oper rfl (fun K hK => ?_)
  go_simp
  refine hK _ _ ?_
  clear hK K
  refine wpList_oper rfl (fun K hK => ?_)
  have hf := pt_i ((hS.block _ (lt_of_block H0.out)).trans H0.out)
  go_simp
  refine hK _ _ ?_
  clear hK K hf
  refine wpList_nil ?_
  refine HK1.out _ _ ?_
  clear HK1 K1
  clear hS
  refine wp_cond_true rfl ?_
  refine wp_seqH (fun K2 HK2 => ?_)
  refine wp_seqH (fun K1 HK1 => ?_)
  refine wp_region_heldS (S := fun V => Below W0.heap.size W0 V) (by kernel_rfl) (Below.refl _ _).drew (fun hS => ?_)
  refine wpAnyH_takeL (i := 0) (v := .agg (pt (x) (y) (true))) rfl (by kernel_rfl) (by kernel_rfl) (by kernel_rfl) (fun _ _ _ h => h) (yields_loadC (by kernel_rfl) 125 _ rfl (N) (0) rfl (pt (x) (y) (true)) _ (fun V hV => rangeOf ((hV.block _ (lt_of_block H0.out)).trans H0.out)) underPt rfl (infoPt (pt_size _ _ _))) hS ?_
  simp only [put_list, List.set_cons_succ, List.set_cons_zero]
  refine wpAnyH_ready (rs := [1]) (by kernel_rfl) (by simp) (AllReadyH.cons rfl (fun K hK => ?_) AllReadyH.nil)
  refine ite_wp (by kernel_rfl) ?_
  refine wp_callD (av := #[]) _ _ 13 rfl rfl (by simp only [List.map_toArray, List.map_nil]) (enters_of Tryz.func162 (by kernel_rfl) rfl) (infinity_any _) ?_
  intro x3 hbc
  refine hK.out _ _ (hS.trans (hbc.mono hS.size)) (fun hS => ?_)
  clear hK K hbc
  simp only [List.set_cons_succ, List.set_cons_zero]
  refine wpAnyH_takeL (i := 2) (v := .bool false) rfl (by kernel_rfl) (by kernel_rfl) (by kernel_rfl) (fun _ _ _ h => h) (yields_neq (b := true) (by kernel_rfl) 125 125 (.tmp 12) (.tmp 13) rfl rfl rfl gqPt rfl (fun w => ((eqPt hx hy k0_fits k0_fits true true w).trans (by rw [hq])))) hS ?_
  simp only [put_list, List.set_cons_succ, List.set_cons_zero]
  refine wpAnyH_done (by kernel_rfl) ?_ _
  (try simp only [put_none])
  refine HK1.out _ _ ?_
  clear HK1 K1
  have HG9 := hideP (HG.out.below hS)
  have H09 := hideP ((hS.block _ (lt_of_block H0.out)).trans H0.out)
  have HBW9 := hideP (HBW.out.trans (hS.mono (Nat.le_of_lt (lt_of_block H0.out))))
  clear hS HG HBW H0 
  have HG := HG9
  clear HG9
  have HBW := HBW9
  clear HBW9
  have H0 := H09
  clear H09
  as_aux_lemma =>
    refine wp_cond_false rfl ?_
    refine wp_skip ?_
    refine HK2.out _ _ ?_
    clear HK2 K2
    refine wp_seqH (fun K1 HK1 => ?_)
    refine wp_region_list ?_
    have hS := Below.refl x3.heap.size x3
    refine wpList_oper rfl (fun K hK => ?_)
    go_simp
    refine hK _ _ ?_
    clear hK K
    refine wpList_nil ?_
    refine HK1.out _ _ ?_
    clear HK1 K1
    clear hS
    refine wp_ret ?_
    refine then_ret ?_
    exact bodyPost_ret_by (results_tmp rfl _ _ _) rfl ⟨rfl, HBW.out⟩

set_option maxHeartbeats 4000000 in
set_option maxRecDepth 100000 in
theorem good_odd {w : World} {g p m : Nat} {b : K} (hG : GAt w g p m b) (x y : K) (hx : Fits x) (hy : Fits y) (hq : (decide (x = k0) && (decide (y = k0) && (true == true))) = false) : Calls Tryz.prog 111 #[.pointer (some ⟨g, 0, none⟩), .agg (pt x y true)] w fun e w' => e = .returned (.int .i64 70) ∧ Below w.heap.size w w' := by
  have hg := hG.glt
  have hp := hG.plt
  have HG9 := hideP hG
  clear hG
  go_enter Tryz.func111, Tryz.ntmps111
  refine wp_seqH (fun K0 HK0 => ?_)
  go_wp2_with fail
  refine HK0.out _ _ ?_
  clear HK0 K0
  refine at_world (fun W0 hW0 => ?_)
  have hb0 : W0.heap[w.heap.size]? = some (.cells (pt (x) (y) (true)) 125 (0, 0)) := by
    rw [hW0]
    exact (heap_new _ _)
  have hbw : Below w.heap.size w W0 := by
    rw [hW0]
    repeat first | exact Below.refl _ _ | (refine Below.alloc ?_ (by simp <;> omega) _)
  clear hW0
  have HG := hideP (HG9.out.below hbw)
  clear HG9
  have HBW := hideP hbw
  clear hbw
  generalize hN : w.heap.size = N at *
  clear hN
  have H0 := hideP hb0
  clear hb0
  refine wp_seqH (fun K2 HK2 => ?_)
  refine wp_seqH (fun K1 HK1 => ?_)
  refine wp_region_list ?_
  have hS := Below.refl W0.heap.size W0
  refine wpList_oper rfl (fun K hK => ?_)
  go_simp
  refine hK _ _ ?_
  clear hK K
  refine wpList_oper rfl (fun K hK => ?_)
  go_simp
  refine hK _ _ ?_
  clear hK K
  refine wpList_nil ?_
  refine HK1.out _ _ ?_
  clear HK1 K1
  clear hS
  refine wp_cond_false rfl ?_
  refine wp_skip ?_
  refine HK2.out _ _ ?_
  clear HK2 K2
  refine wp_seqH (fun K2 HK2 => ?_)
  refine wp_seqH (fun K1 HK1 => ?_)
  refine wp_region_list ?_
  have hS := Below.refl W0.heap.size W0
  refine wpList_oper rfl (fun K hK => ?_)
  go_simp
  refine hK _ _ ?_
  clear hK K
  refine wpList_oper rfl (fun K hK => ?_)
  have hf := pt_i ((hS.block _ (lt_of_block H0.out)).trans H0.out)
  go_simp
  refine hK _ _ ?_
  clear hK K hf
  refine wpList_nil ?_
  refine HK1.out _ _ ?_
  clear HK1 K1
  clear hS
  refine wp_cond_true rfl ?_
  refine wp_seqH (fun K2 HK2 => ?_)
  refine wp_seqH (fun K1 HK1 => ?_)
  refine wp_region_heldS (S := fun V => Below W0.heap.size W0 V) (by kernel_rfl) (Below.refl _ _).drew (fun hS => ?_)
  refine wpAnyH_takeL (i := 0) (v := .agg (pt (x) (y) (true))) rfl (by kernel_rfl) (by kernel_rfl) (by kernel_rfl) (fun _ _ _ h => h) (yields_loadC (by kernel_rfl) 125 _ rfl (N) (0) rfl (pt (x) (y) (true)) _ (fun V hV => rangeOf ((hV.block _ (lt_of_block H0.out)).trans H0.out)) underPt rfl (infoPt (pt_size _ _ _))) hS ?_
  simp only [put_list, List.set_cons_succ, List.set_cons_zero]
  refine wpAnyH_ready (rs := [1]) (by kernel_rfl) (by simp) (AllReadyH.cons rfl (fun K hK => ?_) AllReadyH.nil)
  refine ite_wp (by kernel_rfl) ?_
  refine wp_callD (av := #[]) _ _ 13 rfl rfl (by simp only [List.map_toArray, List.map_nil]) (enters_of Tryz.func162 (by kernel_rfl) rfl) (infinity_any _) ?_
  intro x3 hbc
  refine hK.out _ _ (hS.trans (hbc.mono hS.size)) (fun hS => ?_)
  clear hK K hbc
  simp only [List.set_cons_succ, List.set_cons_zero]
  refine wpAnyH_takeL (i := 2) (v := .bool true) rfl (by kernel_rfl) (by kernel_rfl) (by kernel_rfl) (fun _ _ _ h => h) (yields_neq (b := false) (by kernel_rfl) 125 125 (.tmp 12) (.tmp 13) rfl rfl rfl gqPt rfl (fun w => ((eqPt hx hy k0_fits k0_fits true true w).trans (by rw [hq])))) hS ?_
  simp only [put_list, List.set_cons_succ, List.set_cons_zero]
  refine wpAnyH_done (by kernel_rfl) ?_ _
  (try simp only [put_none])
  refine HK1.out _ _ ?_
  clear HK1 K1
  have HG9 := hideP (HG.out.below hS)
  have H09 := hideP ((hS.block _ (lt_of_block H0.out)).trans H0.out)
  have HBW9 := hideP (HBW.out.trans (hS.mono (Nat.le_of_lt (lt_of_block H0.out))))
  clear hS HG HBW H0 
  have HG := HG9
  clear HG9
  have HBW := HBW9
  clear HBW9
  have H0 := H09
  clear H09
  as_aux_lemma =>
    refine wp_cond_true rfl ?_
    refine wp_seqH (fun K1 HK1 => ?_)
    refine wp_region_list ?_
    have hS := Below.refl x3.heap.size x3
    refine wpList_oper rfl (fun K hK => ?_)
    go_simp
    refine hK _ _ ?_
    clear hK K
    refine wpList_nil ?_
    refine HK1.out _ _ ?_
    clear HK1 K1
    clear hS
    refine wp_ret ?_
    refine then_ret ?_
    refine then_ret ?_
    exact bodyPost_ret_by (results_tmp rfl _ _ _) rfl ⟨rfl, HBW.out⟩

set_option maxHeartbeats 4000000 in
set_option maxRecDepth 100000 in
theorem good_x {w : World} {g p m : Nat} {b : K} (hG : GAt w g p m b) (x y : K) (hx : Fits x) (hbx : ¬ rest m x = x) : Calls Tryz.prog 111 #[.pointer (some ⟨g, 0, none⟩), .agg (pt x y false)] w fun e w' => e = .returned (.int .i64 70) ∧ Below w.heap.size w w' := by
  have hg := hG.glt
  have hp := hG.plt
  have HG9 := hideP hG
  clear hG
  go_enter Tryz.func111, Tryz.ntmps111
  refine wp_seqH (fun K0 HK0 => ?_)
  go_wp2_with fail
  refine HK0.out _ _ ?_
  clear HK0 K0
  refine at_world (fun W0 hW0 => ?_)
  have hb0 : W0.heap[w.heap.size]? = some (.cells (pt (x) (y) (false)) 125 (0, 0)) := by
    rw [hW0]
    exact (heap_new _ _)
  have hbw : Below w.heap.size w W0 := by
    rw [hW0]
    repeat first | exact Below.refl _ _ | (refine Below.alloc ?_ (by simp <;> omega) _)
  clear hW0
  have HG := hideP (HG9.out.below hbw)
  clear HG9
  have HBW := hideP hbw
  clear hbw
  generalize hN : w.heap.size = N at *
  clear hN
  have H0 := hideP hb0
  clear hb0
  refine wp_seqH (fun K2 HK2 => ?_)
  refine wp_seqH (fun K1 HK1 => ?_)
  refine wp_region_list ?_
  have hS := Below.refl W0.heap.size W0
  refine wpList_oper rfl (fun K hK => ?_)
  go_simp
  refine hK _ _ ?_
  clear hK K
  refine wpList_oper rfl (fun K hK => ?_)
  go_simp
  refine hK _ _ ?_
  clear hK K
  refine wpList_nil ?_
  refine HK1.out _ _ ?_
  clear HK1 K1
  clear hS
  refine wp_cond_false rfl ?_
  refine wp_skip ?_
  refine HK2.out _ _ ?_
  clear HK2 K2
  refine wp_seqH (fun K2 HK2 => ?_)
  refine wp_seqH (fun K1 HK1 => ?_)
  refine wp_region_list ?_
  have hS := Below.refl W0.heap.size W0
  refine wpList_oper rfl (fun K hK => ?_)
  go_simp
  refine hK _ _ ?_
  clear hK K
  refine wpList_oper rfl (fun K hK => ?_)
  have hf := pt_i ((hS.block _ (lt_of_block H0.out)).trans H0.out)
  go_simp
  refine hK _ _ ?_
  clear hK K hf
  refine wpList_nil ?_
  refine HK1.out _ _ ?_
  clear HK1 K1
  clear hS
  refine wp_cond_false rfl ?_
  refine wp_skip ?_
  refine HK2.out _ _ ?_
  clear HK2 K2
  refine wp_seqH (fun K2 HK2 => ?_)
  refine wp_seqH (fun K1 HK1 => ?_)
  refine wp_region_list ?_
  have hS := Below.refl W0.heap.size W0
  refine wpList_oper rfl (fun K hK => ?_)
  go_simp
  refine hK _ _ ?_
  clear hK K
  refine wpList_oper rfl (fun K hK => ?_)
  go_simp
  refine hK _ _ ?_
  clear hK K
  refine wpList_load_midD rfl 32 (.tmp 16) 17 rfl rfl (N) (0) (nv (x)) rfl _ (pt_x ((hS.block _ (lt_of_block H0.out)).trans H0.out)) underE rfl (infoE (nv_size _)) ?_
  simp only [List.set_cons_succ, List.set_cons_zero]
  refine wpList_oper rfl (fun K hK => ?_)
  refine wp_call2D (.tmp 15) (.tmp 17) _ 18 rfl rfl rfl rfl (enters_of Tryz.func173 (by kernel_rfl) rfl) (isBelow_no (HG.out.below hS) (x) hx hbx) ?_
  intro x3 hbc
  refine hK _ _ ?_
  clear hK K
  have hS9 := hS.trans (hbc.mono hS.size)
  clear hS hbc
  have hS := hS9
  clear hS9
  simp only [List.set_cons_succ, List.set_cons_zero]
  refine wpList_oper rfl (fun K hK => ?_)
  go_simp
  refine hK _ _ ?_
  clear hK K
  refine wpList_oper rfl (fun K hK => ?_)
  go_simp
  refine hK _ _ ?_
  clear hK K
  refine wpList_off (by kernel_rfl) ?_
  simp only [put_list, List.set_cons_succ, List.set_cons_zero]
  refine wpList_off (by kernel_rfl) ?_
  simp only [put_list, List.set_cons_succ, List.set_cons_zero]
  refine wpList_off (by kernel_rfl) ?_
  simp only [put_list, List.set_cons_succ, List.set_cons_zero]
  refine wpList_off (by kernel_rfl) ?_
  simp only [put_list, List.set_cons_succ, List.set_cons_zero]
  refine wpList_off (by kernel_rfl) ?_
  simp only [put_list, List.set_cons_succ, List.set_cons_zero]
  refine wpList_oper rfl (fun K hK => ?_)
  go_simp
  refine hK _ _ ?_
  clear hK K
  refine wpList_nil ?_
  refine HK1.out _ _ ?_
  clear HK1 K1
  have HG9 := hideP (HG.out.below hS)
  have H09 := hideP ((hS.block _ (lt_of_block H0.out)).trans H0.out)
  have HBW9 := hideP (HBW.out.trans (hS.mono (Nat.le_of_lt (lt_of_block H0.out))))
  clear hS HG HBW H0 
  have HG := HG9
  clear HG9
  have HBW := HBW9
  clear HBW9
  have H0 := H09
  clear H09
  as_aux_lemma =>
    refine wp_cond_true rfl ?_
    refine wp_seqH (fun K1 HK1 => ?_)
    refine wp_region_list ?_
    have hS := Below.refl x3.heap.size x3
    refine wpList_oper rfl (fun K hK => ?_)
    go_simp
    refine hK _ _ ?_
    clear hK K
    refine wpList_nil ?_
    refine HK1.out _ _ ?_
    clear HK1 K1
    clear hS
    refine wp_ret ?_
    refine then_ret ?_
    exact bodyPost_ret_by (results_tmp rfl _ _ _) rfl ⟨rfl, HBW.out⟩

set_option maxHeartbeats 4000000 in
set_option maxRecDepth 100000 in
theorem good_y {w : World} {g p m : Nat} {b : K} (hG : GAt w g p m b) (x y : K) (hx : Fits x) (hy : Fits y) (hbx : rest m x = x) (hby : ¬ rest m y = y) : Calls Tryz.prog 111 #[.pointer (some ⟨g, 0, none⟩), .agg (pt x y false)] w fun e w' => e = .returned (.int .i64 70) ∧ Below w.heap.size w w' := by
  have hg := hG.glt
  have hp := hG.plt
  have HG9 := hideP hG
  clear hG
  go_enter Tryz.func111, Tryz.ntmps111
  refine wp_seqH (fun K0 HK0 => ?_)
  go_wp2_with fail
  refine HK0.out _ _ ?_
  clear HK0 K0
  refine at_world (fun W0 hW0 => ?_)
  have hb0 : W0.heap[w.heap.size]? = some (.cells (pt (x) (y) (false)) 125 (0, 0)) := by
    rw [hW0]
    exact (heap_new _ _)
  have hbw : Below w.heap.size w W0 := by
    rw [hW0]
    repeat first | exact Below.refl _ _ | (refine Below.alloc ?_ (by simp <;> omega) _)
  clear hW0
  have HG := hideP (HG9.out.below hbw)
  clear HG9
  have HBW := hideP hbw
  clear hbw
  generalize hN : w.heap.size = N at *
  clear hN
  have H0 := hideP hb0
  clear hb0
  refine wp_seqH (fun K2 HK2 => ?_)
  refine wp_seqH (fun K1 HK1 => ?_)
  refine wp_region_list ?_
  have hS := Below.refl W0.heap.size W0
  refine wpList_oper rfl (fun K hK => ?_)
  go_simp
  refine hK _ _ ?_
  clear hK K
  refine wpList_oper rfl (fun K hK => ?_)
  go_simp
  refine hK _ _ ?_
  clear hK K
  refine wpList_nil ?_
  refine HK1.out _ _ ?_
  clear HK1 K1
  clear hS
  refine wp_cond_false rfl ?_
  refine wp_skip ?_
  refine HK2.out _ _ ?_
  clear HK2 K2
  refine wp_seqH (fun K2 HK2 => ?_)
  refine wp_seqH (fun K1 HK1 => ?_)
  refine wp_region_list ?_
  have hS := Below.refl W0.heap.size W0
  refine wpList_oper rfl (fun K hK => ?_)
  go_simp
  refine hK _ _ ?_
  clear hK K
  refine wpList_oper rfl (fun K hK => ?_)
  have hf := pt_i ((hS.block _ (lt_of_block H0.out)).trans H0.out)
  go_simp
  refine hK _ _ ?_
  clear hK K hf
  refine wpList_nil ?_
  refine HK1.out _ _ ?_
  clear HK1 K1
  clear hS
  refine wp_cond_false rfl ?_
  refine wp_skip ?_
  refine HK2.out _ _ ?_
  clear HK2 K2
  refine wp_seqH (fun K2 HK2 => ?_)
  refine wp_seqH (fun K1 HK1 => ?_)
  refine wp_region_list ?_
  have hS := Below.refl W0.heap.size W0
  refine wpList_oper rfl (fun K hK => ?_)
  go_simp
  refine hK _ _ ?_
  clear hK K
  refine wpList_oper rfl (fun K hK => ?_)
  go_simp
  refine hK _ _ ?_
  clear hK K
  refine wpList_load_midD rfl 32 (.tmp 16) 17 rfl rfl (N) (0) (nv (x)) rfl _ (pt_x ((hS.block _ (lt_of_block H0.out)).trans H0.out)) underE rfl (infoE (nv_size _)) ?_
  simp only [List.set_cons_succ, List.set_cons_zero]
  refine wpList_oper rfl (fun K hK => ?_)
  refine wp_call2D (.tmp 15) (.tmp 17) _ 18 rfl rfl rfl rfl (enters_of Tryz.func173 (by kernel_rfl) rfl) (isBelow_yes (HG.out.below hS) (x) hx hbx) ?_
  intro x3 hbc
  refine hK _ _ ?_
  clear hK K
  have hS9 := hS.trans (hbc.mono hS.size)
  clear hS hbc
  have hS := hS9
  clear hS9
  simp only [List.set_cons_succ, List.set_cons_zero]
  refine wpList_oper rfl (fun K hK => ?_)
  go_simp
  refine hK _ _ ?_
  clear hK K
  refine wpList_oper rfl (fun K hK => ?_)
  go_simp
  refine hK _ _ ?_
  clear hK K
  refine wpList_on (by kernel_rfl) (fun K hK => ?_)
  go_simp
  refine hK _ _ ?_
  clear hK K
  refine wpList_on (by kernel_rfl) (fun K hK => ?_)
  go_simp
  refine hK _ _ ?_
  clear hK K
  refine wpList_on (by kernel_rfl) (fun K hK => ?_)
  refine wp_load_midD 32 (.tmp 22) 23 rfl rfl (N) (4) (nv (y)) rfl _ (pt_y ((hS.block _ (lt_of_block H0.out)).trans H0.out)) underE rfl (by rw [Array.length_toList]; exact infoE (nv_size _)) ?_
  refine hK _ _ ?_
  clear hK K
  simp only [List.set_cons_succ, List.set_cons_zero]
  refine wpList_on (by kernel_rfl) (fun K hK => ?_)
  refine wp_call2D (.tmp 21) (.tmp 23) _ 24 rfl rfl rfl rfl (enters_of Tryz.func173 (by kernel_rfl) rfl) (isBelow_no (HG.out.below hS) (y) hy hby) ?_
  intro x4 hbc
  refine hK _ _ ?_
  clear hK K
  have hS9 := hS.trans (hbc.mono hS.size)
  clear hS hbc
  have hS := hS9
  clear hS9
  simp only [List.set_cons_succ, List.set_cons_zero]
  refine wpList_on (by kernel_rfl) (fun K hK => ?_)
  go_simp
  refine hK _ _ ?_
  clear hK K
  refine wpList_oper rfl (fun K hK => ?_)
  go_simp
  refine hK _ _ ?_
  clear hK K
  refine wpList_nil ?_
  refine HK1.out _ _ ?_
  clear HK1 K1
  have HG9 := hideP (HG.out.below hS)
  have H09 := hideP ((hS.block _ (lt_of_block H0.out)).trans H0.out)
  have HBW9 := hideP (HBW.out.trans (hS.mono (Nat.le_of_lt (lt_of_block H0.out))))
  clear hS HG HBW H0 
  have HG := HG9
  clear HG9
  have HBW := HBW9
  clear HBW9
  have H0 := H09
  clear H09
  as_aux_lemma =>
    refine wp_cond_true rfl ?_
    refine wp_seqH (fun K1 HK1 => ?_)
    refine wp_region_list ?_
    have hS := Below.refl x4.heap.size x4
    refine wpList_oper rfl (fun K hK => ?_)
    go_simp
    refine hK _ _ ?_
    clear hK K
    refine wpList_nil ?_
    refine HK1.out _ _ ?_
    clear HK1 K1
    clear hS
    refine wp_ret ?_
    refine then_ret ?_
    exact bodyPost_ret_by (results_tmp rfl _ _ _) rfl ⟨rfl, HBW.out⟩

set_option maxHeartbeats 4000000 in
set_option maxRecDepth 100000 in
theorem good_off {w : World} {g p m : Nat} {b : K} (hG : GAt w g p m b) (x y : K) (hx : Fits x) (hy : Fits y) (hbx : rest m x = x) (hby : rest m y = y) (hq : ¬ Like m (kmul m (y) (y)) (kadd m (kmul m (kmul m (x) (x)) (x)) (b))) : Calls Tryz.prog 111 #[.pointer (some ⟨g, 0, none⟩), .agg (pt x y false)] w fun e w' => e = .returned (.int .i64 71) ∧ Below w.heap.size w w' := by
  have hg := hG.glt
  have hp := hG.plt
  have HG9 := hideP hG
  clear hG
  go_enter Tryz.func111, Tryz.ntmps111
  refine wp_seqH (fun K0 HK0 => ?_)
  go_wp2_with fail
  refine HK0.out _ _ ?_
  clear HK0 K0
  refine at_world (fun W0 hW0 => ?_)
  have hb0 : W0.heap[w.heap.size]? = some (.cells (pt (x) (y) (false)) 125 (0, 0)) := by
    rw [hW0]
    exact (heap_new _ _)
  have hbw : Below w.heap.size w W0 := by
    rw [hW0]
    repeat first | exact Below.refl _ _ | (refine Below.alloc ?_ (by simp <;> omega) _)
  clear hW0
  have HG := hideP (HG9.out.below hbw)
  clear HG9
  have HBW := hideP hbw
  clear hbw
  generalize hN : w.heap.size = N at *
  clear hN
  have H0 := hideP hb0
  clear hb0
  refine wp_seqH (fun K2 HK2 => ?_)
  refine wp_seqH (fun K1 HK1 => ?_)
  refine wp_region_list ?_
  have hS := Below.refl W0.heap.size W0
  refine wpList_oper rfl (fun K hK => ?_)
  go_simp
  refine hK _ _ ?_
  clear hK K
  refine wpList_oper rfl (fun K hK => ?_)
  go_simp
  refine hK _ _ ?_
  clear hK K
  refine wpList_nil ?_
  refine HK1.out _ _ ?_
  clear HK1 K1
  clear hS
  refine wp_cond_false rfl ?_
  refine wp_skip ?_
  refine HK2.out _ _ ?_
  clear HK2 K2
  refine wp_seqH (fun K2 HK2 => ?_)
  refine wp_seqH (fun K1 HK1 => ?_)
  refine wp_region_list ?_
  have hS := Below.refl W0.heap.size W0
  refine wpList_oper rfl (fun K hK => ?_)
  go_simp
  refine hK _ _ ?_
  clear hK K
  refine wpList_oper rfl (fun K hK => ?_)
  have hf := pt_i ((hS.block _ (lt_of_block H0.out)).trans H0.out)
  go_simp
  refine hK _ _ ?_
  clear hK K hf
  refine wpList_nil ?_
  refine HK1.out _ _ ?_
  clear HK1 K1
  clear hS
  refine wp_cond_false rfl ?_
  refine wp_skip ?_
  refine HK2.out _ _ ?_
  clear HK2 K2
  refine wp_seqH (fun K2 HK2 => ?_)
  refine wp_seqH (fun K1 HK1 => ?_)
  refine wp_region_list ?_
  have hS := Below.refl W0.heap.size W0
  refine wpList_oper rfl (fun K hK => ?_)
  go_simp
  refine hK _ _ ?_
  clear hK K
  refine wpList_oper rfl (fun K hK => ?_)
  go_simp
  refine hK _ _ ?_
  clear hK K
  refine wpList_load_midD rfl 32 (.tmp 16) 17 rfl rfl (N) (0) (nv (x)) rfl _ (pt_x ((hS.block _ (lt_of_block H0.out)).trans H0.out)) underE rfl (infoE (nv_size _)) ?_
  simp only [List.set_cons_succ, List.set_cons_zero]
  refine wpList_oper rfl (fun K hK => ?_)
  refine wp_call2D (.tmp 15) (.tmp 17) _ 18 rfl rfl rfl rfl (enters_of Tryz.func173 (by kernel_rfl) rfl) (isBelow_yes (HG.out.below hS) (x) hx hbx) ?_
  intro x3 hbc
  refine hK _ _ ?_
  clear hK K
  have hS9 := hS.trans (hbc.mono hS.size)
  clear hS hbc
  have hS := hS9
  clear hS9
  simp only [List.set_cons_succ, List.set_cons_zero]
  refine wpList_oper rfl (fun K hK => ?_)
  go_simp
  refine hK _ _ ?_
  clear hK K
  refine wpList_oper rfl (fun K hK => ?_)
  go_simp
  refine hK _ _ ?_
  clear hK K
  refine wpList_on (by kernel_rfl) (fun K hK => ?_)
  go_simp
  refine hK _ _ ?_
  clear hK K
  refine wpList_on (by kernel_rfl) (fun K hK => ?_)
  go_simp
  refine hK _ _ ?_
  clear hK K
  refine wpList_on (by kernel_rfl) (fun K hK => ?_)
  refine wp_load_midD 32 (.tmp 22) 23 rfl rfl (N) (4) (nv (y)) rfl _ (pt_y ((hS.block _ (lt_of_block H0.out)).trans H0.out)) underE rfl (by rw [Array.length_toList]; exact infoE (nv_size _)) ?_
  refine hK _ _ ?_
  clear hK K
  simp only [List.set_cons_succ, List.set_cons_zero]
  refine wpList_on (by kernel_rfl) (fun K hK => ?_)
  refine wp_call2D (.tmp 21) (.tmp 23) _ 24 rfl rfl rfl rfl (enters_of Tryz.func173 (by kernel_rfl) rfl) (isBelow_yes (HG.out.below hS) (y) hy hby) ?_
  intro x4 hbc
  refine hK _ _ ?_
  clear hK K
  have hS9 := hS.trans (hbc.mono hS.size)
  clear hS hbc
  have hS := hS9
  clear hS9
  simp only [List.set_cons_succ, List.set_cons_zero]
  refine wpList_on (by kernel_rfl) (fun K hK => ?_)
  go_simp
  refine hK _ _ ?_
  clear hK K
  refine wpList_oper rfl (fun K hK => ?_)
  go_simp
  refine hK _ _ ?_
  clear hK K
  refine wpList_nil ?_
  refine HK1.out _ _ ?_
  clear HK1 K1
  have HG9 := hideP (HG.out.below hS)
  have H09 := hideP ((hS.block _ (lt_of_block H0.out)).trans H0.out)
  have HBW9 := hideP (HBW.out.trans (hS.mono (Nat.le_of_lt (lt_of_block H0.out))))
  clear hS HG HBW H0 
  have HG := HG9
  clear HG9
  have HBW := HBW9
  clear HBW9
  have H0 := H09
  clear H09
  as_aux_lemma =>
    refine wp_cond_false rfl ?_
    refine wp_skip ?_
    refine HK2.out _ _ ?_
    clear HK2 K2
    refine wp_seqH (fun K1 HK1 => ?_)
    refine wp_region_list ?_
    have hS := Below.refl x4.heap.size x4
    refine wpList_oper rfl (fun K hK => ?_)
    go_simp
    refine hK _ _ ?_
    clear hK K
    refine wpList_oper rfl (fun K hK => ?_)
    go_simp
    refine hK _ _ ?_
    clear hK K
    refine wpList_oper rfl (fun K hK => ?_)
    go_simp
    refine hK _ _ ?_
    clear hK K
    refine wpList_oper rfl (fun K hK => ?_)
    have hf := (HG.out.below hS).fld
    go_simp
    refine hK _ _ ?_
    clear hK K hf
    refine wpList_oper rfl (fun K hK => ?_)
    go_simp
    refine hK _ _ ?_
    clear hK K
    refine wpList_nil ?_
    refine HK1.out _ _ ?_
    clear HK1 K1
    clear hS
    refine wp_seqH (fun K1 HK1 => ?_)
    refine wp_region_heldS (S := fun V => Below x4.heap.size x4 V) (by kernel_rfl) (Below.refl _ _).drew (fun hS => ?_)
    refine wpAnyH_takeL (i := 0) (v := ?_) rfl (by kernel_rfl) (by kernel_rfl) (by kernel_rfl) (fun _ _ _ h => h) (Or.inl ⟨by kernel_rfl, ?_⟩) hS ?_
    rotate_left
    · intro V hV
      go_simp
      (try with_reducible rfl)
    simp only [put_list, List.set_cons_succ, List.set_cons_zero]
    refine wpAnyH_takeL (i := 1) (v := ?_) rfl (by kernel_rfl) (by kernel_rfl) (by kernel_rfl) (fun _ _ _ h => h) (Or.inl ⟨by kernel_rfl, ?_⟩) hS ?_
    rotate_left
    · intro V hV
      go_simp
      (try with_reducible rfl)
    simp only [put_list, List.set_cons_succ, List.set_cons_zero]
    refine wpAnyH_takeL (i := 2) (v := .agg (nv (x))) rfl (by kernel_rfl) (by kernel_rfl) (by kernel_rfl) (fun _ _ _ h => h) (yields_loadC (by kernel_rfl) 32 _ rfl (N) (0) rfl (nv (x)) _ (fun V hV => pt_x ((hV.block _ (lt_of_block H0.out)).trans H0.out)) underE rfl (infoE (nv_size _))) hS ?_
    simp only [put_list, List.set_cons_succ, List.set_cons_zero]
    refine wpAnyH_takeL (i := 4) (v := ?_) rfl (by kernel_rfl) (by kernel_rfl) (by kernel_rfl) (fun _ _ _ h => h) (Or.inl ⟨by kernel_rfl, ?_⟩) hS ?_
    rotate_left
    · intro V hV
      go_simp
      (try with_reducible rfl)
    simp only [put_list, List.set_cons_succ, List.set_cons_zero]
    refine wpAnyH_takeL (i := 5) (v := ?_) rfl (by kernel_rfl) (by kernel_rfl) (by kernel_rfl) (fun _ _ _ h => h) (Or.inl ⟨by kernel_rfl, ?_⟩) hS ?_
    rotate_left
    · intro V hV
      go_simp
      (try with_reducible rfl)
    simp only [put_list, List.set_cons_succ, List.set_cons_zero]
    refine wpAnyH_takeL (i := 6) (v := .agg (nv (y))) rfl (by kernel_rfl) (by kernel_rfl) (by kernel_rfl) (fun _ _ _ h => h) (yields_loadC (by kernel_rfl) 32 _ rfl (N) (4) rfl (nv (y)) _ (fun V hV => pt_y ((hV.block _ (lt_of_block H0.out)).trans H0.out)) underE rfl (infoE (nv_size _))) hS ?_
    simp only [put_list, List.set_cons_succ, List.set_cons_zero]

    refine regionQ (r0 := 2) 2 (fun k => match k with | 0 => 3 | _ => 7) (fun k => match k with | 0 => 34 | _ => 38) (fun k => match k with | 0 => .agg (ev m (x)) | _ => .agg (ev m (y))) (fun i p q => #[true, true, true, decide (0 < i), true, true, true, decide (1 < i), p, q, false, false] : Nat → Bool → Bool → Array Bool) #[.int .u64 0, .int .u64 0, .int .u64 0, .int .u64 0] 32 8 9 6 7 (by kernel_rfl) (by decide) (by decide) (by kernel_rfl) hS ?_ ?_ ?_ ?_
    · intro i hi T w2 K hW2 hT hK
      match i, hi with
      | 0, _ =>
        have t31 : T[31]? = some (ifv p) := hT 31 (by decide) (by decide)
        have t33 : T[33]? = some (.agg (nv (x))) := hT 33 (by decide) (by decide)
        refine wpOp_stepT (i := 3) rfl (fun K' hK' => ?_)
        refine ite_wp (by kernel_rfl) ?_
        refine wp_invoke1D (.tmp 31) (.tmp 33) "In" _ 34 rfl rfl (eval_get t31) (eval_get t33) (cm_In p _ _) (c_In ((HG.out.below hW2).ok) (x) hx) ?_
        intro w3 hb
        exact hK' _ _ (hK w3 hb)
      | 1, _ =>
        have t35 : T[35]? = some (ifv p) := hT 35 (by decide) (by decide)
        have t37 : T[37]? = some (.agg (nv (y))) := hT 37 (by decide) (by decide)
        refine wpOp_stepT (i := 7) rfl (fun K' hK' => ?_)
        refine ite_wp (by kernel_rfl) ?_
        refine wp_invoke1D (.tmp 35) (.tmp 37) "In" _ 38 rfl rfl (eval_get t35) (eval_get t37) (cm_In p _ _) (c_In ((HG.out.below hW2).ok) (y) hy) ?_
        intro w3 hb
        exact hK' _ _ (hK w3 hb)
      | k' + 2, h => exact absurd h (by omega)
    · intro T w2 K hK
      refine wpOp_stepT rfl (fun K' hK' => ?_)
      have HK' := hideP hK'
      have HK9 := hideP hK
      clear hK hK'
      go_simp
      exact HK'.out _ _ HK9.out
    · intro T w2 K hK
      refine wpOp_stepT rfl (fun K' hK' => ?_)
      have HK' := hideP hK'
      have HK9 := hideP hK
      clear hK hK'
      go_simp
      exact HK'.out _ _ HK9.out
    intro x7 B5 B6 hS lB5 lB6 hB5 hB6 hne
    simp only [TC, List.set_cons_succ, List.set_cons_zero]
    refine wpAnyH_ready (rs := [10]) (by kernel_rfl) (by simp) (AllReadyH.cons rfl (fun K hK => ?_) AllReadyH.nil)
    refine ite_wp (by kernel_rfl) ?_
    refine wp_store_midN 32 (.tmp 6) (.tmp 34) rfl rfl (B5) 0 (ev m (x)) rfl rfl (there_of hB5 (zc_size.trans (ev_size _ _).symm)) (infoE (ev_size _ _)) (ev_one _ _) ?_
    have hB59 := blk_sets (ev m (x)).toList 0 hB5
    rw [putAll_eq (zc_size.trans (ev_size _ _).symm)] at hB59
    have hB1 := But.sets (ev m (x)).toList 0 (But.refl B5 x7)
    have hSB := hS.trans (hB1.below.mono lB5)
    have hB69 := (hB1.same _ (by omega)).trans hB6
    clear hB6
    have hB6 := hB69
    clear hB69
    clear hB1 hB5
    have hB5 := hB59
    clear hB59
    generalize World.setCells x7 B5 0 (ev m (x)).toList = x8 at *
    refine hK.out _ _ hSB (fun hS => ?_)
    clear hK K hSB
    refine wpAnyH_ready (rs := [11]) (by kernel_rfl) (by simp) (AllReadyH.cons rfl (fun K hK => ?_) AllReadyH.nil)
    refine ite_wp (by kernel_rfl) ?_
    refine wp_store_midN 32 (.tmp 7) (.tmp 38) rfl rfl (B6) 0 (ev m (y)) rfl rfl (there_of hB6 (zc_size.trans (ev_size _ _).symm)) (infoE (ev_size _ _)) (ev_one _ _) ?_
    have hB69 := blk_sets (ev m (y)).toList 0 hB6
    rw [putAll_eq (zc_size.trans (ev_size _ _).symm)] at hB69
    have hB1 := But.sets (ev m (y)).toList 0 (But.refl B6 x8)
    have hSB := hS.trans (hB1.below.mono lB6)
    have hB59 := (hB1.same _ (by omega)).trans hB5
    clear hB5
    have hB5 := hB59
    clear hB59
    clear hB1 hB6
    have hB6 := hB69
    clear hB69
    generalize World.setCells x8 B6 0 (ev m (y)).toList = x9 at *
    refine hK.out _ _ hSB (fun hS => ?_)
    clear hK K hSB
    refine wpAnyH_done (by kernel_rfl) ?_ _
    (try simp only [put_none])
    refine HK1.out _ _ ?_
    clear HK1 K1
    have HG9 := hideP (HG.out.below hS)
    have H09 := hideP ((hS.block _ (lt_of_block H0.out)).trans H0.out)
    have HBW9 := hideP (HBW.out.trans (hS.mono (Nat.le_of_lt (lt_of_block H0.out))))
    have oB5 : N < B5 := by have := lt_of_block H0.out; omega
    have oB6 : N < B6 := by have := lt_of_block H0.out; omega
    clear hS HG HBW H0 lB5 lB6
    have HG := HG9
    clear HG9
    have HBW := HBW9
    clear HBW9
    have H0 := H09
    clear H09
    have HB5 := hideP hB5
    clear hB5
    have HB6 := hideP hB6
    clear hB6
    as_aux_lemma =>
      refine wp_seqH (fun K2 HK2 => ?_)
      refine wp_seqH (fun K1 HK1 => ?_)
      refine wp_region_heldS (S := fun V => Below x9.heap.size x9 V) (by kernel_rfl) (Below.refl _ _).drew (fun hS => ?_)
      refine wpAnyH_takeL (i := 0) (v := ?_) rfl (by kernel_rfl) (by kernel_rfl) (by kernel_rfl) (fun _ _ _ h => h) (Or.inl ⟨by kernel_rfl, ?_⟩) hS ?_
      rotate_left
      · intro V hV
        go_simp
        (try with_reducible rfl)
      simp only [put_list, List.set_cons_succ, List.set_cons_zero]
      refine wpAnyH_takeL (i := 1) (v := .agg (ev m (y))) rfl (by kernel_rfl) (by kernel_rfl) (by kernel_rfl) (fun _ _ _ h => h) (yields_loadC (by kernel_rfl) 32 _ rfl (B6) (0) rfl (ev m (y)) _ (fun V hV => rangeOf ((hV.block _ (lt_of_block HB6.out)).trans HB6.out)) underE rfl (infoE (ev_size _ _))) hS ?_
      simp only [put_list, List.set_cons_succ, List.set_cons_zero]
      refine wpAnyH_takeL (i := 2) (v := .agg (ev m (y))) rfl (by kernel_rfl) (by kernel_rfl) (by kernel_rfl) (fun _ _ _ h => h) (yields_loadC (by kernel_rfl) 32 _ rfl (B6) (0) rfl (ev m (y)) _ (fun V hV => rangeOf ((hV.block _ (lt_of_block HB6.out)).trans HB6.out)) underE rfl (infoE (ev_size _ _))) hS ?_
      simp only [put_list, List.set_cons_succ, List.set_cons_zero]
      refine wpAnyH_takeL (i := 4) (v := ?_) rfl (by kernel_rfl) (by kernel_rfl) (by kernel_rfl) (fun _ _ _ h => h) (Or.inl ⟨by kernel_rfl, ?_⟩) hS ?_
      rotate_left
      · intro V hV
        go_simp
        (try with_reducible rfl)
      simp only [put_list, List.set_cons_succ, List.set_cons_zero]
      refine wpAnyH_takeL (i := 5) (v := .agg (ev m (x))) rfl (by kernel_rfl) (by kernel_rfl) (by kernel_rfl) (fun _ _ _ h => h) (yields_loadC (by kernel_rfl) 32 _ rfl (B5) (0) rfl (ev m (x)) _ (fun V hV => rangeOf ((hV.block _ (lt_of_block HB5.out)).trans HB5.out)) underE rfl (infoE (ev_size _ _))) hS ?_
      simp only [put_list, List.set_cons_succ, List.set_cons_zero]
      refine wpAnyH_ready (rs := [3]) (by kernel_rfl) (by simp) (AllReadyH.cons rfl (fun K hK => ?_) AllReadyH.nil)
      refine ite_wp (by kernel_rfl) ?_
      refine wp_invoke2D (.tmp 39) (.tmp 40) (.tmp 41) "Mul" _ 42 rfl rfl rfl rfl rfl (cm_Mul p _ _ _) (c_Mul ((HG.out.below hS).ok) (y) (y)) ?_
      intro x10 hbc
      refine hK.out _ _ (hS.trans (hbc.mono hS.size)) (fun hS => ?_)
      clear hK K hbc
      simp only [List.set_cons_succ, List.set_cons_zero]
      refine wpAnyH_ready (rs := [6]) (by kernel_rfl) (by simp) (AllReadyH.cons rfl (fun K hK => ?_) AllReadyH.nil)
      refine ite_wp (by kernel_rfl) ?_
      refine wp_call2D (.tmp 43) (.tmp 44) _ 45 rfl rfl rfl rfl (enters_of Tryz.func174 (by kernel_rfl) rfl) (square_any (HG.out.below hS) (x)) ?_
      intro x11 hbc
      refine hK.out _ _ (hS.trans (hbc.mono hS.size)) (fun hS => ?_)
      clear hK K hbc
      simp only [List.set_cons_succ, List.set_cons_zero]
      refine wpAnyH_takeL (i := 7) (v := .bool true) rfl (by kernel_rfl) (by kernel_rfl) (by kernel_rfl) (fun _ _ _ h => h) (yields_neq (b := false) (by kernel_rfl) 32 32 (.tmp 42) (.tmp 45) rfl rfl rfl gqE rfl (fun w => ((eqE 9998 HG.out.ok (kmul m (y) (y)) (kadd m (kmul m (kmul m (x) (x)) (x)) (b)) w).trans (by rw [decide_eq_false hq])))) hS ?_
      simp only [put_list, List.set_cons_succ, List.set_cons_zero]
      refine wpAnyH_done (by kernel_rfl) ?_ _
      (try simp only [put_none])
      refine HK1.out _ _ ?_
      clear HK1 K1
      have HG9 := hideP (HG.out.below hS)
      have H09 := hideP ((hS.block _ (lt_of_block H0.out)).trans H0.out)
      have HB59 := hideP ((hS.block _ (lt_of_block HB5.out)).trans HB5.out)
      have HB69 := hideP ((hS.block _ (lt_of_block HB6.out)).trans HB6.out)
      have HBW9 := hideP (HBW.out.trans (hS.mono (Nat.le_of_lt (lt_of_block H0.out))))
      clear hS HG HBW H0 HB5 HB6 
      have HG := HG9
      clear HG9
      have HBW := HBW9
      clear HBW9
      have H0 := H09
      clear H09
      have HB5 := HB59
      clear HB59
      have HB6 := HB69
      clear HB69
      as_aux_lemma =>
        refine wp_cond_true rfl ?_
        refine wp_seqH (fun K1 HK1 => ?_)
        refine wp_region_list ?_
        have hS := Below.refl x11.heap.size x11
        refine wpList_oper rfl (fun K hK => ?_)
        go_simp
        refine hK _ _ ?_
        clear hK K
        refine wpList_nil ?_
        refine HK1.out _ _ ?_
        clear HK1 K1
        clear hS
        refine wp_ret ?_
        refine then_ret ?_
        exact bodyPost_ret_by (results_tmp rfl _ _ _) rfl ⟨rfl, HBW.out⟩

set_option maxHeartbeats 4000000 in
set_option maxRecDepth 100000 in
theorem good_on {w : World} {g p m : Nat} {b : K} (hG : GAt w g p m b) (x y : K) (hx : Fits x) (hy : Fits y) (hbx : rest m x = x) (hby : rest m y = y) (hq : Like m (kmul m (y) (y)) (kadd m (kmul m (kmul m (x) (x)) (x)) (b))) : Calls Tryz.prog 111 #[.pointer (some ⟨g, 0, none⟩), .agg (pt x y false)] w fun e w' => e = .returned (.int .i64 0) ∧ Below w.heap.size w w' := by
  have hg := hG.glt
  have hp := hG.plt
  have HG9 := hideP hG
  clear hG
  go_enter Tryz.func111, Tryz.ntmps111
  refine wp_seqH (fun K0 HK0 => ?_)
  go_wp2_with fail
  refine HK0.out _ _ ?_
  clear HK0 K0
  refine at_world (fun W0 hW0 => ?_)
  have hb0 : W0.heap[w.heap.size]? = some (.cells (pt (x) (y) (false)) 125 (0, 0)) := by
    rw [hW0]
    exact (heap_new _ _)
  have hbw : Below w.heap.size w W0 := by
    rw [hW0]
    repeat first | exact Below.refl _ _ | (refine Below.alloc ?_ (by simp <;> omega) _)
  clear hW0
  have HG := hideP (HG9.out.below hbw)
  clear HG9
  have HBW := hideP hbw
  clear hbw
  generalize hN : w.heap.size = N at *
  clear hN
  have H0 := hideP hb0
  clear hb0
  refine wp_seqH (fun K2 HK2 => ?_)
  refine wp_seqH (fun K1 HK1 => ?_)
  refine wp_region_list ?_
  have hS := Below.refl W0.heap.size W0
  refine wpList_oper rfl (fun K hK => ?_)
  go_simp
  refine hK _ _ ?_
  clear hK K
  refine wpList_oper rfl (fun K hK => ?_)
  go_simp
  refine hK _ _ ?_
  clear hK K
  refine wpList_nil ?_
  refine HK1.out _ _ ?_
  clear HK1 K1
  clear hS
  refine wp_cond_false rfl ?_
  refine wp_skip ?_
  refine HK2.out _ _ ?_
  clear HK2 K2
  refine wp_seqH (fun K2 HK2 => ?_)
  refine wp_seqH (fun K1 HK1 => ?_)
  refine wp_region_list ?_
  have hS := Below.refl W0.heap.size W0
  refine wpList_oper rfl (fun K hK => ?_)
  go_simp
  refine hK _ _ ?_
  clear hK K
  refine wpList_oper rfl (fun K hK => ?_)
  have hf := pt_i ((hS.block _ (lt_of_block H0.out)).trans H0.out)
  go_simp
  refine hK _ _ ?_
  clear hK K hf
  refine wpList_nil ?_
  refine HK1.out _ _ ?_
  clear HK1 K1
  clear hS
  refine wp_cond_false rfl ?_
  refine wp_skip ?_
  refine HK2.out _ _ ?_
  clear HK2 K2
  refine wp_seqH (fun K2 HK2 => ?_)
  refine wp_seqH (fun K1 HK1 => ?_)
  refine wp_region_list ?_
  have hS := Below.refl W0.heap.size W0
  refine wpList_oper rfl (fun K hK => ?_)
  go_simp
  refine hK _ _ ?_
  clear hK K
  refine wpList_oper rfl (fun K hK => ?_)
  go_simp
  refine hK _ _ ?_
  clear hK K
  refine wpList_load_midD rfl 32 (.tmp 16) 17 rfl rfl (N) (0) (nv (x)) rfl _ (pt_x ((hS.block _ (lt_of_block H0.out)).trans H0.out)) underE rfl (infoE (nv_size _)) ?_
  simp only [List.set_cons_succ, List.set_cons_zero]
  refine wpList_oper rfl (fun K hK => ?_)
  refine wp_call2D (.tmp 15) (.tmp 17) _ 18 rfl rfl rfl rfl (enters_of Tryz.func173 (by kernel_rfl) rfl) (isBelow_yes (HG.out.below hS) (x) hx hbx) ?_
  intro x3 hbc
  refine hK _ _ ?_
  clear hK K
  have hS9 := hS.trans (hbc.mono hS.size)
  clear hS hbc
  have hS := hS9
  clear hS9
  simp only [List.set_cons_succ, List.set_cons_zero]
  refine wpList_oper rfl (fun K hK => ?_)
  go_simp
  refine hK _ _ ?_
  clear hK K
  refine wpList_oper rfl (fun K hK => ?_)
  go_simp
  refine hK _ _ ?_
  clear hK K
  refine wpList_on (by kernel_rfl) (fun K hK => ?_)
  go_simp
  refine hK _ _ ?_
  clear hK K
  refine wpList_on (by kernel_rfl) (fun K hK => ?_)
  go_simp
  refine hK _ _ ?_
  clear hK K
  refine wpList_on (by kernel_rfl) (fun K hK => ?_)
  refine wp_load_midD 32 (.tmp 22) 23 rfl rfl (N) (4) (nv (y)) rfl _ (pt_y ((hS.block _ (lt_of_block H0.out)).trans H0.out)) underE rfl (by rw [Array.length_toList]; exact infoE (nv_size _)) ?_
  refine hK _ _ ?_
  clear hK K
  simp only [List.set_cons_succ, List.set_cons_zero]
  refine wpList_on (by kernel_rfl) (fun K hK => ?_)
  refine wp_call2D (.tmp 21) (.tmp 23) _ 24 rfl rfl rfl rfl (enters_of Tryz.func173 (by kernel_rfl) rfl) (isBelow_yes (HG.out.below hS) (y) hy hby) ?_
  intro x4 hbc
  refine hK _ _ ?_
  clear hK K
  have hS9 := hS.trans (hbc.mono hS.size)
  clear hS hbc
  have hS := hS9
  clear hS9
  simp only [List.set_cons_succ, List.set_cons_zero]
  refine wpList_on (by kernel_rfl) (fun K hK => ?_)
  go_simp
  refine hK _ _ ?_
  clear hK K
  refine wpList_oper rfl (fun K hK => ?_)
  go_simp
  refine hK _ _ ?_
  clear hK K
  refine wpList_nil ?_
  refine HK1.out _ _ ?_
  clear HK1 K1
  have HG9 := hideP (HG.out.below hS)
  have H09 := hideP ((hS.block _ (lt_of_block H0.out)).trans H0.out)
  have HBW9 := hideP (HBW.out.trans (hS.mono (Nat.le_of_lt (lt_of_block H0.out))))
  clear hS HG HBW H0 
  have HG := HG9
  clear HG9
  have HBW := HBW9
  clear HBW9
  have H0 := H09
  clear H09
  as_aux_lemma =>
    refine wp_cond_false rfl ?_
    refine wp_skip ?_
    refine HK2.out _ _ ?_
    clear HK2 K2
    refine wp_seqH (fun K1 HK1 => ?_)
    refine wp_region_list ?_
    have hS := Below.refl x4.heap.size x4
    refine wpList_oper rfl (fun K hK => ?_)
    go_simp
    refine hK _ _ ?_
    clear hK K
    refine wpList_oper rfl (fun K hK => ?_)
    go_simp
    refine hK _ _ ?_
    clear hK K
    refine wpList_oper rfl (fun K hK => ?_)
    go_simp
    refine hK _ _ ?_
    clear hK K
    refine wpList_oper rfl (fun K hK => ?_)
    have hf := (HG.out.below hS).fld
    go_simp
    refine hK _ _ ?_
    clear hK K hf
    refine wpList_oper rfl (fun K hK => ?_)
    go_simp
    refine hK _ _ ?_
    clear hK K
    refine wpList_nil ?_
    refine HK1.out _ _ ?_
    clear HK1 K1
    clear hS
    refine wp_seqH (fun K1 HK1 => ?_)
    refine wp_region_heldS (S := fun V => Below x4.heap.size x4 V) (by kernel_rfl) (Below.refl _ _).drew (fun hS => ?_)
    refine wpAnyH_takeL (i := 0) (v := ?_) rfl (by kernel_rfl) (by kernel_rfl) (by kernel_rfl) (fun _ _ _ h => h) (Or.inl ⟨by kernel_rfl, ?_⟩) hS ?_
    rotate_left
    · intro V hV
      go_simp
      (try with_reducible rfl)
    simp only [put_list, List.set_cons_succ, List.set_cons_zero]
    refine wpAnyH_takeL (i := 1) (v := ?_) rfl (by kernel_rfl) (by kernel_rfl) (by kernel_rfl) (fun _ _ _ h => h) (Or.inl ⟨by kernel_rfl, ?_⟩) hS ?_
    rotate_left
    · intro V hV
      go_simp
      (try with_reducible rfl)
    simp only [put_list, List.set_cons_succ, List.set_cons_zero]
    refine wpAnyH_takeL (i := 2) (v := .agg (nv (x))) rfl (by kernel_rfl) (by kernel_rfl) (by kernel_rfl) (fun _ _ _ h => h) (yields_loadC (by kernel_rfl) 32 _ rfl (N) (0) rfl (nv (x)) _ (fun V hV => pt_x ((hV.block _ (lt_of_block H0.out)).trans H0.out)) underE rfl (infoE (nv_size _))) hS ?_
    simp only [put_list, List.set_cons_succ, List.set_cons_zero]
    refine wpAnyH_takeL (i := 4) (v := ?_) rfl (by kernel_rfl) (by kernel_rfl) (by kernel_rfl) (fun _ _ _ h => h) (Or.inl ⟨by kernel_rfl, ?_⟩) hS ?_
    rotate_left
    · intro V hV
      go_simp
      (try with_reducible rfl)
    simp only [put_list, List.set_cons_succ, List.set_cons_zero]
    refine wpAnyH_takeL (i := 5) (v := ?_) rfl (by kernel_rfl) (by kernel_rfl) (by kernel_rfl) (fun _ _ _ h => h) (Or.inl ⟨by kernel_rfl, ?_⟩) hS ?_
    rotate_left
    · intro V hV
      go_simp
      (try with_reducible rfl)
    simp only [put_list, List.set_cons_succ, List.set_cons_zero]
    refine wpAnyH_takeL (i := 6) (v := .agg (nv (y))) rfl (by kernel_rfl) (by kernel_rfl) (by kernel_rfl) (fun _ _ _ h => h) (yields_loadC (by kernel_rfl) 32 _ rfl (N) (4) rfl (nv (y)) _ (fun V hV => pt_y ((hV.block _ (lt_of_block H0.out)).trans H0.out)) underE rfl (infoE (nv_size _))) hS ?_
    simp only [put_list, List.set_cons_succ, List.set_cons_zero]

    refine regionQ (r0 := 2) 2 (fun k => match k with | 0 => 3 | _ => 7) (fun k => match k with | 0 => 34 | _ => 38) (fun k => match k with | 0 => .agg (ev m (x)) | _ => .agg (ev m (y))) (fun i p q => #[true, true, true, decide (0 < i), true, true, true, decide (1 < i), p, q, false, false] : Nat → Bool → Bool → Array Bool) #[.int .u64 0, .int .u64 0, .int .u64 0, .int .u64 0] 32 8 9 6 7 (by kernel_rfl) (by decide) (by decide) (by kernel_rfl) hS ?_ ?_ ?_ ?_
    · intro i hi T w2 K hW2 hT hK
      match i, hi with
      | 0, _ =>
        have t31 : T[31]? = some (ifv p) := hT 31 (by decide) (by decide)
        have t33 : T[33]? = some (.agg (nv (x))) := hT 33 (by decide) (by decide)
        refine wpOp_stepT (i := 3) rfl (fun K' hK' => ?_)
        refine ite_wp (by kernel_rfl) ?_
        refine wp_invoke1D (.tmp 31) (.tmp 33) "In" _ 34 rfl rfl (eval_get t31) (eval_get t33) (cm_In p _ _) (c_In ((HG.out.below hW2).ok) (x) hx) ?_
        intro w3 hb
        exact hK' _ _ (hK w3 hb)
      | 1, _ =>
        have t35 : T[35]? = some (ifv p) := hT 35 (by decide) (by decide)
        have t37 : T[37]? = some (.agg (nv (y))) := hT 37 (by decide) (by decide)
        refine wpOp_stepT (i := 7) rfl (fun K' hK' => ?_)
        refine ite_wp (by kernel_rfl) ?_
        refine wp_invoke1D (.tmp 35) (.tmp 37) "In" _ 38 rfl rfl (eval_get t35) (eval_get t37) (cm_In p _ _) (c_In ((HG.out.below hW2).ok) (y) hy) ?_
        intro w3 hb
        exact hK' _ _ (hK w3 hb)
      | k' + 2, h => exact absurd h (by omega)
    · intro T w2 K hK
      refine wpOp_stepT rfl (fun K' hK' => ?_)
      have HK' := hideP hK'
      have HK9 := hideP hK
      clear hK hK'
      go_simp
      exact HK'.out _ _ HK9.out
    · intro T w2 K hK
      refine wpOp_stepT rfl (fun K' hK' => ?_)
      have HK' := hideP hK'
      have HK9 := hideP hK
      clear hK hK'
      go_simp
      exact HK'.out _ _ HK9.out
    intro x7 B5 B6 hS lB5 lB6 hB5 hB6 hne
    simp only [TC, List.set_cons_succ, List.set_cons_zero]
    refine wpAnyH_ready (rs := [10]) (by kernel_rfl) (by simp) (AllReadyH.cons rfl (fun K hK => ?_) AllReadyH.nil)
    refine ite_wp (by kernel_rfl) ?_
    refine wp_store_midN 32 (.tmp 6) (.tmp 34) rfl rfl (B5) 0 (ev m (x)) rfl rfl (there_of hB5 (zc_size.trans (ev_size _ _).symm)) (infoE (ev_size _ _)) (ev_one _ _) ?_
    have hB59 := blk_sets (ev m (x)).toList 0 hB5
    rw [putAll_eq (zc_size.trans (ev_size _ _).symm)] at hB59
    have hB1 := But.sets (ev m (x)).toList 0 (But.refl B5 x7)
    have hSB := hS.trans (hB1.below.mono lB5)
    have hB69 := (hB1.same _ (by omega)).trans hB6
    clear hB6
    have hB6 := hB69
    clear hB69
    clear hB1 hB5
    have hB5 := hB59
    clear hB59
    generalize World.setCells x7 B5 0 (ev m (x)).toList = x8 at *
    refine hK.out _ _ hSB (fun hS => ?_)
    clear hK K hSB
    refine wpAnyH_ready (rs := [11]) (by kernel_rfl) (by simp) (AllReadyH.cons rfl (fun K hK => ?_) AllReadyH.nil)
    refine ite_wp (by kernel_rfl) ?_
    refine wp_store_midN 32 (.tmp 7) (.tmp 38) rfl rfl (B6) 0 (ev m (y)) rfl rfl (there_of hB6 (zc_size.trans (ev_size _ _).symm)) (infoE (ev_size _ _)) (ev_one _ _) ?_
    have hB69 := blk_sets (ev m (y)).toList 0 hB6
    rw [putAll_eq (zc_size.trans (ev_size _ _).symm)] at hB69
    have hB1 := But.sets (ev m (y)).toList 0 (But.refl B6 x8)
    have hSB := hS.trans (hB1.below.mono lB6)
    have hB59 := (hB1.same _ (by omega)).trans hB5
    clear hB5
    have hB5 := hB59
    clear hB59
    clear hB1 hB6
    have hB6 := hB69
    clear hB69
    generalize World.setCells x8 B6 0 (ev m (y)).toList = x9 at *
    refine hK.out _ _ hSB (fun hS => ?_)
    clear hK K hSB
    refine wpAnyH_done (by kernel_rfl) ?_ _
    (try simp only [put_none])
    refine HK1.out _ _ ?_
    clear HK1 K1
    have HG9 := hideP (HG.out.below hS)
    have H09 := hideP ((hS.block _ (lt_of_block H0.out)).trans H0.out)
    have HBW9 := hideP (HBW.out.trans (hS.mono (Nat.le_of_lt (lt_of_block H0.out))))
    have oB5 : N < B5 := by have := lt_of_block H0.out; omega
    have oB6 : N < B6 := by have := lt_of_block H0.out; omega
    clear hS HG HBW H0 lB5 lB6
    have HG := HG9
    clear HG9
    have HBW := HBW9
    clear HBW9
    have H0 := H09
    clear H09
    have HB5 := hideP hB5
    clear hB5
    have HB6 := hideP hB6
    clear hB6
    as_aux_lemma =>
      refine wp_seqH (fun K2 HK2 => ?_)
      refine wp_seqH (fun K1 HK1 => ?_)
      refine wp_region_heldS (S := fun V => Below x9.heap.size x9 V) (by kernel_rfl) (Below.refl _ _).drew (fun hS => ?_)
      refine wpAnyH_takeL (i := 0) (v := ?_) rfl (by kernel_rfl) (by kernel_rfl) (by kernel_rfl) (fun _ _ _ h => h) (Or.inl ⟨by kernel_rfl, ?_⟩) hS ?_
      rotate_left
      · intro V hV
        go_simp
        (try with_reducible rfl)
      simp only [put_list, List.set_cons_succ, List.set_cons_zero]
      refine wpAnyH_takeL (i := 1) (v := .agg (ev m (y))) rfl (by kernel_rfl) (by kernel_rfl) (by kernel_rfl) (fun _ _ _ h => h) (yields_loadC (by kernel_rfl) 32 _ rfl (B6) (0) rfl (ev m (y)) _ (fun V hV => rangeOf ((hV.block _ (lt_of_block HB6.out)).trans HB6.out)) underE rfl (infoE (ev_size _ _))) hS ?_
      simp only [put_list, List.set_cons_succ, List.set_cons_zero]
      refine wpAnyH_takeL (i := 2) (v := .agg (ev m (y))) rfl (by kernel_rfl) (by kernel_rfl) (by kernel_rfl) (fun _ _ _ h => h) (yields_loadC (by kernel_rfl) 32 _ rfl (B6) (0) rfl (ev m (y)) _ (fun V hV => rangeOf ((hV.block _ (lt_of_block HB6.out)).trans HB6.out)) underE rfl (infoE (ev_size _ _))) hS ?_
      simp only [put_list, List.set_cons_succ, List.set_cons_zero]
      refine wpAnyH_takeL (i := 4) (v := ?_) rfl (by kernel_rfl) (by kernel_rfl) (by kernel_rfl) (fun _ _ _ h => h) (Or.inl ⟨by kernel_rfl, ?_⟩) hS ?_
      rotate_left
      · intro V hV
        go_simp
        (try with_reducible rfl)
      simp only [put_list, List.set_cons_succ, List.set_cons_zero]
      refine wpAnyH_takeL (i := 5) (v := .agg (ev m (x))) rfl (by kernel_rfl) (by kernel_rfl) (by kernel_rfl) (fun _ _ _ h => h) (yields_loadC (by kernel_rfl) 32 _ rfl (B5) (0) rfl (ev m (x)) _ (fun V hV => rangeOf ((hV.block _ (lt_of_block HB5.out)).trans HB5.out)) underE rfl (infoE (ev_size _ _))) hS ?_
      simp only [put_list, List.set_cons_succ, List.set_cons_zero]
      refine wpAnyH_ready (rs := [3]) (by kernel_rfl) (by simp) (AllReadyH.cons rfl (fun K hK => ?_) AllReadyH.nil)
      refine ite_wp (by kernel_rfl) ?_
      refine wp_invoke2D (.tmp 39) (.tmp 40) (.tmp 41) "Mul" _ 42 rfl rfl rfl rfl rfl (cm_Mul p _ _ _) (c_Mul ((HG.out.below hS).ok) (y) (y)) ?_
      intro x10 hbc
      refine hK.out _ _ (hS.trans (hbc.mono hS.size)) (fun hS => ?_)
      clear hK K hbc
      simp only [List.set_cons_succ, List.set_cons_zero]
      refine wpAnyH_ready (rs := [6]) (by kernel_rfl) (by simp) (AllReadyH.cons rfl (fun K hK => ?_) AllReadyH.nil)
      refine ite_wp (by kernel_rfl) ?_
      refine wp_call2D (.tmp 43) (.tmp 44) _ 45 rfl rfl rfl rfl (enters_of Tryz.func174 (by kernel_rfl) rfl) (square_any (HG.out.below hS) (x)) ?_
      intro x11 hbc
      refine hK.out _ _ (hS.trans (hbc.mono hS.size)) (fun hS => ?_)
      clear hK K hbc
      simp only [List.set_cons_succ, List.set_cons_zero]
      refine wpAnyH_takeL (i := 7) (v := .bool false) rfl (by kernel_rfl) (by kernel_rfl) (by kernel_rfl) (fun _ _ _ h => h) (yields_neq (b := true) (by kernel_rfl) 32 32 (.tmp 42) (.tmp 45) rfl rfl rfl gqE rfl (fun w => ((eqE 9998 HG.out.ok (kmul m (y) (y)) (kadd m (kmul m (kmul m (x) (x)) (x)) (b)) w).trans (by rw [decide_eq_true hq])))) hS ?_
      simp only [put_list, List.set_cons_succ, List.set_cons_zero]
      refine wpAnyH_done (by kernel_rfl) ?_ _
      (try simp only [put_none])
      refine HK1.out _ _ ?_
      clear HK1 K1
      have HG9 := hideP (HG.out.below hS)
      have H09 := hideP ((hS.block _ (lt_of_block H0.out)).trans H0.out)
      have HB59 := hideP ((hS.block _ (lt_of_block HB5.out)).trans HB5.out)
      have HB69 := hideP ((hS.block _ (lt_of_block HB6.out)).trans HB6.out)
      have HBW9 := hideP (HBW.out.trans (hS.mono (Nat.le_of_lt (lt_of_block H0.out))))
      clear hS HG HBW H0 HB5 HB6 
      have HG := HG9
      clear HG9
      have HBW := HBW9
      clear HBW9
      have H0 := H09
      clear H09
      have HB5 := HB59
      clear HB59
      have HB6 := HB69
      clear HB69
      as_aux_lemma =>
        refine wp_cond_false rfl ?_
        refine wp_skip ?_
        refine HK2.out _ _ ?_
        clear HK2 K2
        refine wp_seqH (fun K1 HK1 => ?_)
        refine wp_region_list ?_
        have hS := Below.refl x11.heap.size x11
        refine wpList_oper rfl (fun K hK => ?_)
        go_simp
        refine hK _ _ ?_
        clear hK K
        refine wpList_nil ?_
        refine HK1.out _ _ ?_
        clear HK1 K1
        clear hS
        refine wp_ret ?_
        exact bodyPost_ret_by (results_tmp rfl _ _ _) rfl ⟨rfl, HBW.out⟩

/-- What is wrong with a point. -/
def goodN (m : Nat) (b x y : K) (i : Bool) : Int :=
  if i = true then (if (decide (x = k0) && (decide (y = k0) && (true == true))) = true then 0 else 70)
  else if rest m x = x then (if rest m y = y then (if Like m (kmul m (y) (y)) (kadd m (kmul m (kmul m (x) (x)) (x)) (b)) then 0 else 71) else 70) else 70

theorem good_any {w : World} {g p m : Nat} {b : K} (hG : GAt w g p m b) (x y : K) (hx : Fits x) (hy : Fits y) (i : Bool) : Calls Tryz.prog 111 #[.pointer (some ⟨g, 0, none⟩), .agg (pt x y i)] w fun e w' => e = .returned (.int .i64 (goodN m b x y i)) ∧ Below w.heap.size w w' := by
  unfold goodN
  cases i with
  | true =>
    rw [if_pos rfl]
    by_cases h : (decide (x = k0) && (decide (y = k0) && (true == true))) = true
    · rw [if_pos h]; exact good_inf hG x y hx hy h
    · rw [if_neg h]; exact good_odd hG x y hx hy (by simpa using h)
  | false =>
    rw [if_neg (by decide)]
    by_cases h1 : rest m x = x
    · rw [if_pos h1]
      by_cases h2 : rest m y = y
      · rw [if_pos h2]
        by_cases h3 : Like m (kmul m (y) (y)) (kadd m (kmul m (kmul m (x) (x)) (x)) (b))
        · rw [if_pos h3]; exact good_on hG x y hx hy h1 h2 h3
        · rw [if_neg h3]; exact good_off hG x y hx hy h1 h2 h3
      · rw [if_neg h2]; exact good_y hG x y hx hy h1 h2
    · rw [if_neg h1]; exact good_x hG x y hx h1

end Go.Proofs.YtppijhcfodccfaaGreat.P4
