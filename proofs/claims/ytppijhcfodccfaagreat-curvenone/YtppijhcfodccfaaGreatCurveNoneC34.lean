/-
  A point, so many times, as a point.
-/
import Derived.Test.YtppijhcfodccfaaGreatCurveNoneC23
import Derived.Test.YtppijhcfodccfaaGreatCurveNoneC04
namespace Go.Proofs.YtppijhcfodccfaaGreat.P4
open Go.RowKit Go.Shelf

set_option maxHeartbeats 4000000 in
set_option maxRecDepth 100000 in
theorem multiply_70 {w : World} {g p m : Nat} {b : K} (hG : GAt w g p m b) (x y : K) (hx : Fits x) (hy : Fits y) (i : Bool) (k : Nat) (he : goodN m b x y i = 70) : Calls Tryz.prog 122 #[.pointer (some ⟨g, 0, none⟩), .agg (pt x y i), .agg (W4.cs (limb k))] w fun e w' => e = .returned (.tuple #[.agg (pt k0 k0 false), .int .i64 70]) ∧ Below w.heap.size w w' := by
  have hg := hG.glt
  have hp := hG.plt
  have HG9 := hideP hG
  clear hG
  go_enter Tryz.func122, Tryz.ntmps122
  refine wp_seqH (fun K0 HK0 => ?_)
  go_wp2_with fail
  refine HK0.out _ _ ?_
  clear HK0 K0
  refine at_world (fun W0 hW0 => ?_)
  have hb0 : W0.heap[w.heap.size]? = some (.cells (pt (x) (y) (i)) 125 (0, 0)) := by
    rw [hW0]
    exact ((heap_old _ _ (by simp <;> omega)).trans ((heap_old _ _ (by simp <;> omega)).trans (heap_new _ _)))
  have hb1 : W0.heap[w.heap.size + 1]? = some (.cells (W4.cs (limb k)) 65 (0, 0)) := by
    rw [hW0]
    exact ((heap_old _ _ (by simp <;> omega)).trans (heap_new1 _ _ _))
  have hbr : ∃ C : Array Value, W0.heap[w.heap.size + 1 + 1]? = some (.cells C 125 (0, 0)) ∧ C.size = 9 := by
    rw [hW0]
    exact ⟨_, heap_new2 _ _ _ _, rfl⟩
  have hbw : Below w.heap.size w W0 := by
    rw [hW0]
    repeat first | exact Below.refl _ _ | (refine Below.alloc ?_ (by simp <;> omega) _)
  clear hW0
  have HG := hideP (HG9.out.below hbw)
  clear HG9
  have HBW := hideP hbw
  clear hbw
  generalize hN : w.heap.size = N at *
  clear hN
  generalize hB1 : N + 1 = B1 at *
  generalize hB2 : B1 + 1 = B2 at *
  have o1 : N < B1 := by omega
  have o2 : B1 < B2 := by omega
  clear hB2
  clear hB1
  have H0 := hideP hb0
  clear hb0
  have H1 := hideP hb1
  clear hb1
  obtain ⟨Cr, hbr, s_B2⟩ := hbr
  have Hr := hideP hbr
  clear hbr
  refine wp_seqH (fun K2 HK2 => ?_)
  refine wp_seqH (fun K1 HK1 => ?_)
  refine wp_region_list ?_
  have hS := Below.refl W0.heap.size W0
  refine wpList_oper rfl (fun K hK => ?_)
  go_simp
  refine hK _ _ ?_
  clear hK K
  refine wpList_load_midD rfl 125 (.tmp 4) 10 rfl rfl (N) (0) (pt (x) (y) (i)) rfl _ (rangeOf ((hS.block _ (lt_of_block H0.out)).trans H0.out)) underPt rfl (infoPt (pt_size _ _ _)) ?_
  simp only [List.set_cons_succ, List.set_cons_zero]
  refine wpList_oper rfl (fun K hK => ?_)
  refine wp_call2D (.tmp 9) (.tmp 10) _ 11 rfl rfl rfl rfl (enters_of Tryz.func111 (by kernel_rfl) rfl) (good_is (HG.out.below hS) (x) (y) hx hy i he) ?_
  intro x5 hbc
  refine hK _ _ ?_
  clear hK K
  have hS9 := hS.trans (hbc.mono hS.size)
  clear hS hbc
  have hS := hS9
  clear hS9
  simp only [List.set_cons_succ, List.set_cons_zero]
  refine wpList_oper rfl (fun K hK => ?_)
  go_simp
  refine hK _ _ ?_
  clear hK K
  refine wpList_nil ?_
  refine HK1.out _ _ ?_
  clear HK1 K1
  have HG9 := hideP (HG.out.below hS)
  have H09 := hideP ((hS.block _ (lt_of_block H0.out)).trans H0.out)
  have H19 := hideP ((hS.block _ (lt_of_block H1.out)).trans H1.out)
  have Hr9 := hideP ((hS.block _ (lt_of_block Hr.out)).trans Hr.out)
  have HBW9 := hideP (HBW.out.trans (hS.mono (Nat.le_of_lt (lt_of_block H0.out))))
  clear hS HG HBW H0 H1 Hr 
  have HG := HG9
  clear HG9
  have HBW := HBW9
  clear HBW9
  have H0 := H09
  clear H09
  have H1 := H19
  clear H19
  have Hr := Hr9
  clear Hr9
  as_aux_lemma =>
    refine wp_seqH (fun K1 HK1 => ?_)
    refine wp_region_list ?_
    have hS := Below.refl x5.heap.size x5
    refine wpList_oper rfl (fun K hK => ?_)
    go_simp
    refine hK _ _ ?_
    clear hK K
    refine wpList_oper rfl (fun K hK => ?_)
    go_simp
    refine hK _ _ ?_
    clear hK K
    refine wpList_nil ?_
    refine HK1.out _ _ ?_
    clear HK1 K1
    clear hS
    refine wp_cond_true rfl ?_
    refine wp_seqH (fun K1 HK1 => ?_)
    refine wp_region_list ?_
    have hS := Below.refl x5.heap.size x5
    refine wpList_oper rfl (fun K hK => ?_)
    go_simp
    refine hK _ _ ?_
    clear hK K
    refine wpList_oper rfl (fun K hK => ?_)
    refine wp_callD (av := #[.int .i64 70]) _ _ 15 rfl rfl (by simp only [List.map_toArray, List.map_cons, List.map_nil]; rfl) (enters_of Tryz.func178 (by kernel_rfl) rfl) (beside_any _ (by decide) _) ?_
    intro x6 hbc
    refine hK _ _ ?_
    clear hK K
    have hS9 := hS.trans (hbc.mono hS.size)
    clear hS hbc
    have hS := hS9
    clear hS9
    simp only [List.set_cons_succ, List.set_cons_zero]
    refine wpList_oper rfl (fun K hK => ?_)
    go_simp
    refine hK _ _ ?_
    clear hK K
    have hQ := (KQ.start Hr.out s_B2).call hS
    refine wpList_store_midD rfl 125 (.tmp 6) (.tmp 15) rfl rfl (B2) 0 (pt (k0) (k0) (false)) rfl rfl (hQ.there (pt_size _ _ _)) (infoPt (pt_size _ _ _)) (pt_one _ _ _) ?_
    have g1 := hQ.put (C := pt (k0) (k0) (false)) (pt_size _ _ _)
    have hS9 := hQ.store (C := pt (k0) (k0) (false)) (pt_size _ _ _)
    clear hS hQ
    have hS := hS9
    clear hS9
    generalize World.setCells _ (B2) 0 (pt (k0) (k0) (false)).toList = x7 at g1 hS ⊢
    refine wpList_oper rfl (fun K hK => ?_)
    go_simp
    refine hK _ _ ?_
    clear hK K
    refine wpList_nil ?_
    refine HK1.out _ _ ?_
    clear HK1 K1
    refine wp_ret ?_
    refine then_ret ?_
    exact bodyPost_ret_by (results_pair rfl rfl rfl (loadC _ B2 0 125 (pt (k0) (k0) (false)) _ (rangeOf g1) underPt rfl (infoPt (pt_size _ _ _)))) rfl ⟨rfl, HBW.out.trans (hS.below.mono (by omega))⟩

set_option maxHeartbeats 4000000 in
set_option maxRecDepth 100000 in
theorem multiply_71 {w : World} {g p m : Nat} {b : K} (hG : GAt w g p m b) (x y : K) (hx : Fits x) (hy : Fits y) (i : Bool) (k : Nat) (he : goodN m b x y i = 71) : Calls Tryz.prog 122 #[.pointer (some ⟨g, 0, none⟩), .agg (pt x y i), .agg (W4.cs (limb k))] w fun e w' => e = .returned (.tuple #[.agg (pt k0 k0 false), .int .i64 71]) ∧ Below w.heap.size w w' := by
  have hg := hG.glt
  have hp := hG.plt
  have HG9 := hideP hG
  clear hG
  go_enter Tryz.func122, Tryz.ntmps122
  refine wp_seqH (fun K0 HK0 => ?_)
  go_wp2_with fail
  refine HK0.out _ _ ?_
  clear HK0 K0
  refine at_world (fun W0 hW0 => ?_)
  have hb0 : W0.heap[w.heap.size]? = some (.cells (pt (x) (y) (i)) 125 (0, 0)) := by
    rw [hW0]
    exact ((heap_old _ _ (by simp <;> omega)).trans ((heap_old _ _ (by simp <;> omega)).trans (heap_new _ _)))
  have hb1 : W0.heap[w.heap.size + 1]? = some (.cells (W4.cs (limb k)) 65 (0, 0)) := by
    rw [hW0]
    exact ((heap_old _ _ (by simp <;> omega)).trans (heap_new1 _ _ _))
  have hbr : ∃ C : Array Value, W0.heap[w.heap.size + 1 + 1]? = some (.cells C 125 (0, 0)) ∧ C.size = 9 := by
    rw [hW0]
    exact ⟨_, heap_new2 _ _ _ _, rfl⟩
  have hbw : Below w.heap.size w W0 := by
    rw [hW0]
    repeat first | exact Below.refl _ _ | (refine Below.alloc ?_ (by simp <;> omega) _)
  clear hW0
  have HG := hideP (HG9.out.below hbw)
  clear HG9
  have HBW := hideP hbw
  clear hbw
  generalize hN : w.heap.size = N at *
  clear hN
  generalize hB1 : N + 1 = B1 at *
  generalize hB2 : B1 + 1 = B2 at *
  have o1 : N < B1 := by omega
  have o2 : B1 < B2 := by omega
  clear hB2
  clear hB1
  have H0 := hideP hb0
  clear hb0
  have H1 := hideP hb1
  clear hb1
  obtain ⟨Cr, hbr, s_B2⟩ := hbr
  have Hr := hideP hbr
  clear hbr
  refine wp_seqH (fun K2 HK2 => ?_)
  refine wp_seqH (fun K1 HK1 => ?_)
  refine wp_region_list ?_
  have hS := Below.refl W0.heap.size W0
  refine wpList_oper rfl (fun K hK => ?_)
  go_simp
  refine hK _ _ ?_
  clear hK K
  refine wpList_load_midD rfl 125 (.tmp 4) 10 rfl rfl (N) (0) (pt (x) (y) (i)) rfl _ (rangeOf ((hS.block _ (lt_of_block H0.out)).trans H0.out)) underPt rfl (infoPt (pt_size _ _ _)) ?_
  simp only [List.set_cons_succ, List.set_cons_zero]
  refine wpList_oper rfl (fun K hK => ?_)
  refine wp_call2D (.tmp 9) (.tmp 10) _ 11 rfl rfl rfl rfl (enters_of Tryz.func111 (by kernel_rfl) rfl) (good_is (HG.out.below hS) (x) (y) hx hy i he) ?_
  intro x5 hbc
  refine hK _ _ ?_
  clear hK K
  have hS9 := hS.trans (hbc.mono hS.size)
  clear hS hbc
  have hS := hS9
  clear hS9
  simp only [List.set_cons_succ, List.set_cons_zero]
  refine wpList_oper rfl (fun K hK => ?_)
  go_simp
  refine hK _ _ ?_
  clear hK K
  refine wpList_nil ?_
  refine HK1.out _ _ ?_
  clear HK1 K1
  have HG9 := hideP (HG.out.below hS)
  have H09 := hideP ((hS.block _ (lt_of_block H0.out)).trans H0.out)
  have H19 := hideP ((hS.block _ (lt_of_block H1.out)).trans H1.out)
  have Hr9 := hideP ((hS.block _ (lt_of_block Hr.out)).trans Hr.out)
  have HBW9 := hideP (HBW.out.trans (hS.mono (Nat.le_of_lt (lt_of_block H0.out))))
  clear hS HG HBW H0 H1 Hr 
  have HG := HG9
  clear HG9
  have HBW := HBW9
  clear HBW9
  have H0 := H09
  clear H09
  have H1 := H19
  clear H19
  have Hr := Hr9
  clear Hr9
  as_aux_lemma =>
    refine wp_seqH (fun K1 HK1 => ?_)
    refine wp_region_list ?_
    have hS := Below.refl x5.heap.size x5
    refine wpList_oper rfl (fun K hK => ?_)
    go_simp
    refine hK _ _ ?_
    clear hK K
    refine wpList_oper rfl (fun K hK => ?_)
    go_simp
    refine hK _ _ ?_
    clear hK K
    refine wpList_nil ?_
    refine HK1.out _ _ ?_
    clear HK1 K1
    clear hS
    refine wp_cond_true rfl ?_
    refine wp_seqH (fun K1 HK1 => ?_)
    refine wp_region_list ?_
    have hS := Below.refl x5.heap.size x5
    refine wpList_oper rfl (fun K hK => ?_)
    go_simp
    refine hK _ _ ?_
    clear hK K
    refine wpList_oper rfl (fun K hK => ?_)
    refine wp_callD (av := #[.int .i64 71]) _ _ 15 rfl rfl (by simp only [List.map_toArray, List.map_cons, List.map_nil]; rfl) (enters_of Tryz.func178 (by kernel_rfl) rfl) (beside_any _ (by decide) _) ?_
    intro x6 hbc
    refine hK _ _ ?_
    clear hK K
    have hS9 := hS.trans (hbc.mono hS.size)
    clear hS hbc
    have hS := hS9
    clear hS9
    simp only [List.set_cons_succ, List.set_cons_zero]
    refine wpList_oper rfl (fun K hK => ?_)
    go_simp
    refine hK _ _ ?_
    clear hK K
    have hQ := (KQ.start Hr.out s_B2).call hS
    refine wpList_store_midD rfl 125 (.tmp 6) (.tmp 15) rfl rfl (B2) 0 (pt (k0) (k0) (false)) rfl rfl (hQ.there (pt_size _ _ _)) (infoPt (pt_size _ _ _)) (pt_one _ _ _) ?_
    have g1 := hQ.put (C := pt (k0) (k0) (false)) (pt_size _ _ _)
    have hS9 := hQ.store (C := pt (k0) (k0) (false)) (pt_size _ _ _)
    clear hS hQ
    have hS := hS9
    clear hS9
    generalize World.setCells _ (B2) 0 (pt (k0) (k0) (false)).toList = x7 at g1 hS ⊢
    refine wpList_oper rfl (fun K hK => ?_)
    go_simp
    refine hK _ _ ?_
    clear hK K
    refine wpList_nil ?_
    refine HK1.out _ _ ?_
    clear HK1 K1
    refine wp_ret ?_
    refine then_ret ?_
    exact bodyPost_ret_by (results_pair rfl rfl rfl (loadC _ B2 0 125 (pt (k0) (k0) (false)) _ (rangeOf g1) underPt rfl (infoPt (pt_size _ _ _)))) rfl ⟨rfl, HBW.out.trans (hS.below.mono (by omega))⟩

set_option maxHeartbeats 4000000 in
set_option maxRecDepth 100000 in
theorem multiply_0 {w : World} {g p m : Nat} {b : K} (hG : GAt w g p m b) (x y : K) (hx : Fits x) (hy : Fits y) (i : Bool) (k : Nat) (hk : k < 2 ^ 256) (he : goodN m b x y i = 0) : Calls Tryz.prog 122 #[.pointer (some ⟨g, 0, none⟩), .agg (pt x y i), .agg (W4.cs (limb k))] w fun e w' => e = .returned (.tuple #[.agg (ptS (outS m (timesP m x y i k))), .int .i64 0]) ∧ Below w.heap.size w w' := by
  have hg := hG.glt
  have hp := hG.plt
  have HG9 := hideP hG
  clear hG
  go_enter Tryz.func122, Tryz.ntmps122
  refine wp_seqH (fun K0 HK0 => ?_)
  go_wp2_with fail
  refine HK0.out _ _ ?_
  clear HK0 K0
  refine at_world (fun W0 hW0 => ?_)
  have hb0 : W0.heap[w.heap.size]? = some (.cells (pt (x) (y) (i)) 125 (0, 0)) := by
    rw [hW0]
    exact ((heap_old _ _ (by simp <;> omega)).trans ((heap_old _ _ (by simp <;> omega)).trans (heap_new _ _)))
  have hb1 : W0.heap[w.heap.size + 1]? = some (.cells (W4.cs (limb k)) 65 (0, 0)) := by
    rw [hW0]
    exact ((heap_old _ _ (by simp <;> omega)).trans (heap_new1 _ _ _))
  have hbr : ∃ C : Array Value, W0.heap[w.heap.size + 1 + 1]? = some (.cells C 125 (0, 0)) ∧ C.size = 9 := by
    rw [hW0]
    exact ⟨_, heap_new2 _ _ _ _, rfl⟩
  have hbw : Below w.heap.size w W0 := by
    rw [hW0]
    repeat first | exact Below.refl _ _ | (refine Below.alloc ?_ (by simp <;> omega) _)
  clear hW0
  have HG := hideP (HG9.out.below hbw)
  clear HG9
  have HBW := hideP hbw
  clear hbw
  generalize hN : w.heap.size = N at *
  clear hN
  generalize hB1 : N + 1 = B1 at *
  generalize hB2 : B1 + 1 = B2 at *
  have o1 : N < B1 := by omega
  have o2 : B1 < B2 := by omega
  clear hB2
  clear hB1
  have H0 := hideP hb0
  clear hb0
  have H1 := hideP hb1
  clear hb1
  obtain ⟨Cr, hbr, s_B2⟩ := hbr
  have Hr := hideP hbr
  clear hbr
  refine wp_seqH (fun K2 HK2 => ?_)
  refine wp_seqH (fun K1 HK1 => ?_)
  refine wp_region_list ?_
  have hS := Below.refl W0.heap.size W0
  refine wpList_oper rfl (fun K hK => ?_)
  go_simp
  refine hK _ _ ?_
  clear hK K
  refine wpList_load_midD rfl 125 (.tmp 4) 10 rfl rfl (N) (0) (pt (x) (y) (i)) rfl _ (rangeOf ((hS.block _ (lt_of_block H0.out)).trans H0.out)) underPt rfl (infoPt (pt_size _ _ _)) ?_
  simp only [List.set_cons_succ, List.set_cons_zero]
  refine wpList_oper rfl (fun K hK => ?_)
  refine wp_call2D (.tmp 9) (.tmp 10) _ 11 rfl rfl rfl rfl (enters_of Tryz.func111 (by kernel_rfl) rfl) (good_is (HG.out.below hS) (x) (y) hx hy i he) ?_
  intro x5 hbc
  refine hK _ _ ?_
  clear hK K
  have hS9 := hS.trans (hbc.mono hS.size)
  clear hS hbc
  have hS := hS9
  clear hS9
  simp only [List.set_cons_succ, List.set_cons_zero]
  refine wpList_oper rfl (fun K hK => ?_)
  go_simp
  refine hK _ _ ?_
  clear hK K
  refine wpList_nil ?_
  refine HK1.out _ _ ?_
  clear HK1 K1
  have HG9 := hideP (HG.out.below hS)
  have H09 := hideP ((hS.block _ (lt_of_block H0.out)).trans H0.out)
  have H19 := hideP ((hS.block _ (lt_of_block H1.out)).trans H1.out)
  have Hr9 := hideP ((hS.block _ (lt_of_block Hr.out)).trans Hr.out)
  have HBW9 := hideP (HBW.out.trans (hS.mono (Nat.le_of_lt (lt_of_block H0.out))))
  clear hS HG HBW H0 H1 Hr 
  have HG := HG9
  clear HG9
  have HBW := HBW9
  clear HBW9
  have H0 := H09
  clear H09
  have H1 := H19
  clear H19
  have Hr := Hr9
  clear Hr9
  as_aux_lemma =>
    refine wp_seqH (fun K1 HK1 => ?_)
    refine wp_region_list ?_
    have hS := Below.refl x5.heap.size x5
    refine wpList_oper rfl (fun K hK => ?_)
    go_simp
    refine hK _ _ ?_
    clear hK K
    refine wpList_oper rfl (fun K hK => ?_)
    go_simp
    refine hK _ _ ?_
    clear hK K
    refine wpList_nil ?_
    refine HK1.out _ _ ?_
    clear HK1 K1
    clear hS
    refine wp_cond_false rfl ?_
    refine wp_skip ?_
    refine HK2.out _ _ ?_
    clear HK2 K2
    refine wp_seqH (fun K1 HK1 => ?_)
    refine wp_region_list ?_
    have hS := Below.refl x5.heap.size x5
    refine wpList_oper rfl (fun K hK => ?_)
    go_simp
    refine hK _ _ ?_
    clear hK K
    refine wpList_oper rfl (fun K hK => ?_)
    go_simp
    refine hK _ _ ?_
    clear hK K
    refine wpList_load_midD rfl 125 (.tmp 4) 19 rfl rfl (N) (0) (pt (x) (y) (i)) rfl _ (rangeOf ((hS.block _ (lt_of_block H0.out)).trans H0.out)) underPt rfl (infoPt (pt_size _ _ _)) ?_
    simp only [List.set_cons_succ, List.set_cons_zero]
    refine wpList_load_midD rfl 65 (.tmp 5) 20 rfl rfl (B1) (0) (W4.cs (limb k)) rfl _ (rangeOf ((hS.block _ (lt_of_block H1.out)).trans H1.out)) underWd rfl (infoWd (W4.cs_size _)) ?_
    simp only [List.set_cons_succ, List.set_cons_zero]
    refine wpList_oper rfl (fun K hK => ?_)
    refine wp_callD (av := #[.pointer (some ⟨g, 0, none⟩), .agg (pt (x) (y) (i)), .agg (W4.cs (limb k))]) _ _ 21 rfl rfl (by simp only [List.map_toArray, List.map_cons, List.map_nil]; rfl) (enters_of Tryz.func169 (by kernel_rfl) rfl) (times_P (HG.out.below hS) (x) (y) hx hy i k hk) ?_
    intro x6 hbc
    refine hK _ _ ?_
    clear hK K
    have hS9 := hS.trans (hbc.mono hS.size)
    clear hS hbc
    have hS := hS9
    clear hS9
    simp only [List.set_cons_succ, List.set_cons_zero]
    refine wpList_oper rfl (fun K hK => ?_)
    refine wp_call2D (.tmp 17) (.tmp 21) _ 22 rfl rfl rfl rfl (enters_of Tryz.func179 (by kernel_rfl) rfl) (out_S (HG.out.below hS) (timesP m (x) (y) i k)) ?_
    intro x7 hbc
    refine hK _ _ ?_
    clear hK K
    have hS9 := hS.trans (hbc.mono hS.size)
    clear hS hbc
    have hS := hS9
    clear hS9
    simp only [List.set_cons_succ, List.set_cons_zero]
    have hQ := (KQ.start Hr.out s_B2).call hS
    refine wpList_store_midD rfl 125 (.tmp 6) (.tmp 22) rfl rfl (B2) 0 (ptS (outS m (timesP m (x) (y) i k))) rfl rfl (hQ.there (pt_size _ _ _)) (infoPt (pt_size _ _ _)) (pt_one _ _ _) ?_
    have g1 := hQ.put (C := ptS (outS m (timesP m (x) (y) i k))) (pt_size _ _ _)
    have hS9 := hQ.store (C := ptS (outS m (timesP m (x) (y) i k))) (pt_size _ _ _)
    clear hS hQ
    have hS := hS9
    clear hS9
    generalize World.setCells _ (B2) 0 (ptS (outS m (timesP m (x) (y) i k))).toList = x8 at g1 hS ⊢
    refine wpList_oper rfl (fun K hK => ?_)
    go_simp
    refine hK _ _ ?_
    clear hK K
    refine wpList_nil ?_
    refine HK1.out _ _ ?_
    clear HK1 K1
    refine wp_ret ?_
    exact bodyPost_ret_by (results_pair rfl rfl rfl (loadC _ B2 0 125 (ptS (outS m (timesP m (x) (y) i k))) _ (rangeOf g1) underPt rfl (infoPt (pt_size _ _ _)))) rfl ⟨rfl, HBW.out.trans (hS.below.mono (by omega))⟩

end Go.Proofs.YtppijhcfodccfaaGreat.P4
