/-
  A scaled point and a place, added.
-/
import Derived.Test.YtppijhcfodccfaaGreatCurveNoneC14
import Derived.Test.YtppijhcfodccfaaGreatCurveNoneC04
namespace Go.Proofs.YtppijhcfodccfaaGreat.P4
open Go.RowKit Go.Shelf

set_option maxHeartbeats 4000000 in
set_option maxRecDepth 100000 in
theorem plus_zero {w : World} {g p m : Nat} {b : K} (hG : GAt w g p m b) (x y z a c : K) (hz : Like m z k0) : Calls Tryz.prog 180 #[.pointer (some ⟨g, 0, none⟩), .agg (sc m x y z), .agg (pl m a c)] w fun e w' => e = .returned (.agg (sc m a c k1)) ∧ Below w.heap.size w w' := by
  have hg := hG.glt
  have hp := hG.plt
  have HG9 := hideP hG
  clear hG
  go_enter Tryz.func180, Tryz.ntmps180
  refine wp_seqH (fun K0 HK0 => ?_)
  go_wp2_with fail
  refine HK0.out _ _ ?_
  clear HK0 K0
  refine at_world (fun W0 hW0 => ?_)
  have hb0 : W0.heap[w.heap.size]? = some (.cells (sc m (x) (y) (z)) 264 (0, 0)) := by
    rw [hW0]
    exact ((heap_old _ _ (by simp <;> omega)).trans ((heap_old _ _ (by simp <;> omega)).trans (heap_new _ _)))
  have hb1 : W0.heap[w.heap.size + 1]? = some (.cells (pl m (a) (c)) 262 (0, 0)) := by
    rw [hW0]
    exact ((heap_old _ _ (by simp <;> omega)).trans (heap_new1 _ _ _))
  have hbr : ∃ C : Array Value, W0.heap[w.heap.size + 1 + 1]? = some (.cells C 264 (0, 0)) ∧ C.size = 12 := by
    rw [hW0]
    exact ⟨_, heap_new2 _ _ _ _, rfl⟩
  have hbw : Below w.heap.size w W0 := by
    rw [hW0]
    repeat first | exact Below.refl _ _ | (refine Below.alloc ?_ (by simp <;> omega) _)
  clear hW0
  have HG := hideP (HG9.out.below hbw)
  clear HG9
  have HBW := hideP hbw
  clear hbw
  generalize hN : w.heap.size = N at *
  clear hN
  generalize hB1 : N + 1 = B1 at *
  generalize hB2 : B1 + 1 = B2 at *
  have o1 : N < B1 := by omega
  have o2 : B1 < B2 := by omega
  clear hB2
  clear hB1
  have H0 := hideP hb0
  clear hb0
  have H1 := hideP hb1
  clear hb1
  obtain ⟨Cr, hbr, s_B2⟩ := hbr
  have Hr := hideP hbr
  clear hbr
  refine wp_seqH (fun K2 HK2 => ?_)
  refine wp_seqH (fun K1 HK1 => ?_)
  refine wp_region_heldS (S := fun V => Below W0.heap.size W0 V) (by kernel_rfl) (Below.refl _ _).drew (fun hS => ?_)
  refine wpAnyH_takeL (i := 0) (v := ?_) rfl (by kernel_rfl) (by kernel_rfl) (by kernel_rfl) (fun _ _ _ h => h) (Or.inl ⟨by kernel_rfl, ?_⟩) hS ?_
  rotate_left
  · intro V hV
    go_simp
    (try with_reducible rfl)
  simp only [put_list, List.set_cons_succ, List.set_cons_zero]
  refine wpAnyH_takeL (i := 1) (v := .agg (ev m (z))) rfl (by kernel_rfl) (by kernel_rfl) (by kernel_rfl) (fun _ _ _ h => h) (yields_loadC (by kernel_rfl) 32 _ rfl (N) (8) rfl (ev m (z)) _ (fun V hV => sc_z ((hV.block _ (lt_of_block H0.out)).trans H0.out)) underE rfl (infoE (ev_size _ _))) hS ?_
  simp only [put_list, List.set_cons_succ, List.set_cons_zero]
  refine wpAnyH_takeL (i := 2) (v := ?_) rfl (by kernel_rfl) (by kernel_rfl) (by kernel_rfl) (fun _ _ _ h => h) (Or.inl ⟨by kernel_rfl, ?_⟩) hS ?_
  rotate_left
  · intro V hV
    go_simp
    (try with_reducible rfl)
  simp only [put_list, List.set_cons_succ, List.set_cons_zero]
  refine wpAnyH_takeL (i := 3) (v := ?_) rfl (by kernel_rfl) (by kernel_rfl) (by kernel_rfl) (fun _ _ _ h => h) (Or.inl ⟨by kernel_rfl, ?_⟩) hS ?_
  rotate_left
  · intro V hV
    go_simp
    (try with_reducible rfl)
  simp only [put_list, List.set_cons_succ, List.set_cons_zero]
  refine wpAnyH_takeL (i := 4) (v := ?_) rfl (by kernel_rfl) (by kernel_rfl) (by kernel_rfl) (fun _ _ _ h => h) (Or.inl ⟨by kernel_rfl, ?_⟩) hS ?_
  rotate_left
  · intro V hV
    go_simp
    (try with_reducible rfl)
  simp only [put_list, List.set_cons_succ, List.set_cons_zero]
  refine wpAnyH_takeL (i := 5) (v := .agg (ev m (k0))) rfl (by kernel_rfl) (by kernel_rfl) (by kernel_rfl) (fun _ _ _ h => h) (yields_loadC (by kernel_rfl) 32 _ rfl (g) (1) rfl (ev m (k0)) _ (fun V hV => (HG.out.below hV).zero) underE rfl (infoE (ev_size _ _))) hS ?_
  simp only [put_list, List.set_cons_succ, List.set_cons_zero]
  refine wpAnyH_takeL (i := 6) (v := .bool true) rfl (by kernel_rfl) (by kernel_rfl) (by kernel_rfl) (fun _ _ _ h => h) (yields_eql (by kernel_rfl) 32 32 (.tmp 16) (.tmp 20) rfl rfl rfl gqE (fun w => ((eqE 9998 HG.out.ok (z) (k0) w).trans (by rw [decide_eq_true hz])))) hS ?_
  simp only [put_list, List.set_cons_succ, List.set_cons_zero]
  refine wpAnyH_done (by kernel_rfl) ?_ _
  (try simp only [put_none])
  generalize W0.drew = x5 at hS ⊢
  refine HK1.out _ _ ?_
  clear HK1 K1
  have HG9 := hideP (HG.out.below hS)
  have H09 := hideP ((hS.block _ (lt_of_block H0.out)).trans H0.out)
  have H19 := hideP ((hS.block _ (lt_of_block H1.out)).trans H1.out)
  have Hr9 := hideP ((hS.block _ (lt_of_block Hr.out)).trans Hr.out)
  have HBW9 := hideP (HBW.out.trans (hS.mono (Nat.le_of_lt (lt_of_block H0.out))))
  clear hS HG HBW H0 H1 Hr 
  have HG := HG9
  clear HG9
  have HBW := HBW9
  clear HBW9
  have H0 := H09
  clear H09
  have H1 := H19
  clear H19
  have Hr := Hr9
  clear Hr9
  as_aux_lemma =>
    refine wp_cond_true rfl ?_
    refine wp_seqH (fun K1 HK1 => ?_)
    refine wp_region_heldS (S := fun V => KQ x5 B2 12 264 V) (by kernel_rfl) (KQ.init Hr.out s_B2) (fun hS => ?_)
    refine wpAnyH_takeL (i := 0) (v := .agg (pl m (a) (c))) rfl (by kernel_rfl) (by kernel_rfl) (by kernel_rfl) (fun _ _ _ h => h) (yields_loadC (by kernel_rfl) 262 _ rfl (B1) (0) rfl (pl m (a) (c)) _ (fun V hV => rangeOf (hV.box H1.out (by omega))) underPl rfl (infoPl (pl_size _ _ _))) hS ?_
    simp only [put_list, List.set_cons_succ, List.set_cons_zero]
    refine wpAnyH_takeL (i := 1) (v := ?_) rfl (by kernel_rfl) (by kernel_rfl) (by kernel_rfl) (fun _ _ _ h => h) (Or.inl ⟨by kernel_rfl, ?_⟩) hS ?_
    rotate_left
    · intro V hV
      go_simp
      (try with_reducible rfl)
    simp only [put_list, List.set_cons_succ, List.set_cons_zero]
    refine wpAnyH_takeL (i := 2) (v := ?_) rfl (by kernel_rfl) (by kernel_rfl) (by kernel_rfl) (fun _ _ _ h => h) (Or.inl ⟨by kernel_rfl, ?_⟩) hS ?_
    rotate_left
    · intro V hV
      go_simp
      (try with_reducible rfl)
    simp only [put_list, List.set_cons_succ, List.set_cons_zero]
    refine wpAnyH_takeL (i := 3) (v := ?_) rfl (by kernel_rfl) (by kernel_rfl) (by kernel_rfl) (fun _ _ _ h => h) (Or.inl ⟨by kernel_rfl, ?_⟩) hS ?_
    rotate_left
    · intro V hV
      go_simp
      (try with_reducible rfl)
    simp only [put_list, List.set_cons_succ, List.set_cons_zero]
    refine wpAnyH_takeL (i := 4) (v := .agg (ev m (k1))) rfl (by kernel_rfl) (by kernel_rfl) (by kernel_rfl) (fun _ _ _ h => h) (yields_loadC (by kernel_rfl) 32 _ rfl (g) (5) rfl (ev m (k1)) _ (fun V hV => (HG.out.kq hV (by omega) (by omega)).one) underE rfl (infoE (ev_size _ _))) hS ?_
    simp only [put_list, List.set_cons_succ, List.set_cons_zero]
    refine wpAnyH_takeL (i := 5) (v := .agg (sc m (a) (c) (k1))) rfl (by kernel_rfl) (by kernel_rfl) (by kernel_rfl) (fun _ _ _ h => h) (yields_build2 (by kernel_rfl) 264 (.tmp 22) (.tmp 26) rfl rfl rfl (bd_sc _ _ _ _)) hS ?_
    simp only [put_list, List.set_cons_succ, List.set_cons_zero]
    refine wpAnyH_ready (rs := [6]) (by kernel_rfl) (by simp) (AllReadyH.cons rfl (fun K hK => ?_) AllReadyH.nil)
    refine ite_wp (by kernel_rfl) ?_
    refine wp_store_midN 264 (.tmp 6) (.tmp 27) rfl rfl (B2) 0 (sc m (a) (c) (k1)) rfl rfl (hS.there (sc_size _ _ _ _)) (infoSc (sc_size _ _ _ _)) (sc_one _ _ _ _) ?_
    have g1 := hS.put (C := sc m (a) (c) (k1)) (sc_size _ _ _ _)
    have hS9 := hS.store (C := sc m (a) (c) (k1)) (sc_size _ _ _ _)
    clear hS
    generalize World.setCells _ (B2) 0 (sc m (a) (c) (k1)).toList = x6 at g1 hS9 ⊢
    refine hK.out _ _ hS9 (fun hS => ?_)
    clear hK K hS9
    refine wpAnyH_done (by kernel_rfl) ?_ _
    (try simp only [put_none])
    refine HK1.out _ _ ?_
    clear HK1 K1
    refine wp_ret ?_
    refine then_ret ?_
    exact bodyPost_ret_by (results_cell rfl rfl (loadC _ B2 0 264 (sc m (a) (c) (k1)) _ (rangeOf g1) underSc rfl (infoSc (sc_size _ _ _ _)))) rfl ⟨rfl, HBW.out.trans (hS.below.mono (by omega))⟩

set_option maxHeartbeats 4000000 in
set_option maxRecDepth 100000 in
theorem plus_add {w : World} {g p m : Nat} {b : K} (hG : GAt w g p m b) (x y z a c : K) (hz : ¬ Like m z k0) (hq : ¬ (Like m (kmul m (a) (kmul m (z) (z))) x ∧ Like m (kmul m (c) (kmul m (kmul m (z) (z)) (z))) y)) : Calls Tryz.prog 180 #[.pointer (some ⟨g, 0, none⟩), .agg (sc m x y z), .agg (pl m a c)] w fun e w' => e = .returned (.agg (sc m (ksub m (ksub m (kmul m (ksub m (kmul m (c) (kmul m (kmul m (z) (z)) (z))) (y)) (ksub m (kmul m (c) (kmul m (kmul m (z) (z)) (z))) (y))) (kmul m (kmul m (ksub m (kmul m (a) (kmul m (z) (z))) (x)) (ksub m (kmul m (a) (kmul m (z) (z))) (x))) (ksub m (kmul m (a) (kmul m (z) (z))) (x)))) (kadd m (kmul m (x) (kmul m (ksub m (kmul m (a) (kmul m (z) (z))) (x)) (ksub m (kmul m (a) (kmul m (z) (z))) (x)))) (kmul m (x) (kmul m (ksub m (kmul m (a) (kmul m (z) (z))) (x)) (ksub m (kmul m (a) (kmul m (z) (z))) (x)))))) (ksub m (kmul m (ksub m (kmul m (c) (kmul m (kmul m (z) (z)) (z))) (y)) (ksub m (kmul m (x) (kmul m (ksub m (kmul m (a) (kmul m (z) (z))) (x)) (ksub m (kmul m (a) (kmul m (z) (z))) (x)))) (ksub m (ksub m (kmul m (ksub m (kmul m (c) (kmul m (kmul m (z) (z)) (z))) (y)) (ksub m (kmul m (c) (kmul m (kmul m (z) (z)) (z))) (y))) (kmul m (kmul m (ksub m (kmul m (a) (kmul m (z) (z))) (x)) (ksub m (kmul m (a) (kmul m (z) (z))) (x))) (ksub m (kmul m (a) (kmul m (z) (z))) (x)))) (kadd m (kmul m (x) (kmul m (ksub m (kmul m (a) (kmul m (z) (z))) (x)) (ksub m (kmul m (a) (kmul m (z) (z))) (x)))) (kmul m (x) (kmul m (ksub m (kmul m (a) (kmul m (z) (z))) (x)) (ksub m (kmul m (a) (kmul m (z) (z))) (x)))))))) (kmul m (y) (kmul m (kmul m (ksub m (kmul m (a) (kmul m (z) (z))) (x)) (ksub m (kmul m (a) (kmul m (z) (z))) (x))) (ksub m (kmul m (a) (kmul m (z) (z))) (x))))) (kmul m (z) (ksub m (kmul m (a) (kmul m (z) (z))) (x))))) ∧ Below w.heap.size w w' := by
  have hg := hG.glt
  have hp := hG.plt
  have HG9 := hideP hG
  clear hG
  go_enter Tryz.func180, Tryz.ntmps180
  refine wp_seqH (fun K0 HK0 => ?_)
  go_wp2_with fail
  refine HK0.out _ _ ?_
  clear HK0 K0
  refine at_world (fun W0 hW0 => ?_)
  have hb0 : W0.heap[w.heap.size]? = some (.cells (sc m (x) (y) (z)) 264 (0, 0)) := by
    rw [hW0]
    exact ((heap_old _ _ (by simp <;> omega)).trans ((heap_old _ _ (by simp <;> omega)).trans (heap_new _ _)))
  have hb1 : W0.heap[w.heap.size + 1]? = some (.cells (pl m (a) (c)) 262 (0, 0)) := by
    rw [hW0]
    exact ((heap_old _ _ (by simp <;> omega)).trans (heap_new1 _ _ _))
  have hbr : ∃ C : Array Value, W0.heap[w.heap.size + 1 + 1]? = some (.cells C 264 (0, 0)) ∧ C.size = 12 := by
    rw [hW0]
    exact ⟨_, heap_new2 _ _ _ _, rfl⟩
  have hbw : Below w.heap.size w W0 := by
    rw [hW0]
    repeat first | exact Below.refl _ _ | (refine Below.alloc ?_ (by simp <;> omega) _)
  clear hW0
  have HG := hideP (HG9.out.below hbw)
  clear HG9
  have HBW := hideP hbw
  clear hbw
  generalize hN : w.heap.size = N at *
  clear hN
  generalize hB1 : N + 1 = B1 at *
  generalize hB2 : B1 + 1 = B2 at *
  have o1 : N < B1 := by omega
  have o2 : B1 < B2 := by omega
  clear hB2
  clear hB1
  have H0 := hideP hb0
  clear hb0
  have H1 := hideP hb1
  clear hb1
  obtain ⟨Cr, hbr, s_B2⟩ := hbr
  have Hr := hideP hbr
  clear hbr
  refine wp_seqH (fun K2 HK2 => ?_)
  refine wp_seqH (fun K1 HK1 => ?_)
  refine wp_region_heldS (S := fun V => Below W0.heap.size W0 V) (by kernel_rfl) (Below.refl _ _).drew (fun hS => ?_)
  refine wpAnyH_takeL (i := 0) (v := ?_) rfl (by kernel_rfl) (by kernel_rfl) (by kernel_rfl) (fun _ _ _ h => h) (Or.inl ⟨by kernel_rfl, ?_⟩) hS ?_
  rotate_left
  · intro V hV
    go_simp
    (try with_reducible rfl)
  simp only [put_list, List.set_cons_succ, List.set_cons_zero]
  refine wpAnyH_takeL (i := 1) (v := .agg (ev m (z))) rfl (by kernel_rfl) (by kernel_rfl) (by kernel_rfl) (fun _ _ _ h => h) (yields_loadC (by kernel_rfl) 32 _ rfl (N) (8) rfl (ev m (z)) _ (fun V hV => sc_z ((hV.block _ (lt_of_block H0.out)).trans H0.out)) underE rfl (infoE (ev_size _ _))) hS ?_
  simp only [put_list, List.set_cons_succ, List.set_cons_zero]
  refine wpAnyH_takeL (i := 2) (v := ?_) rfl (by kernel_rfl) (by kernel_rfl) (by kernel_rfl) (fun _ _ _ h => h) (Or.inl ⟨by kernel_rfl, ?_⟩) hS ?_
  rotate_left
  · intro V hV
    go_simp
    (try with_reducible rfl)
  simp only [put_list, List.set_cons_succ, List.set_cons_zero]
  refine wpAnyH_takeL (i := 3) (v := ?_) rfl (by kernel_rfl) (by kernel_rfl) (by kernel_rfl) (fun _ _ _ h => h) (Or.inl ⟨by kernel_rfl, ?_⟩) hS ?_
  rotate_left
  · intro V hV
    go_simp
    (try with_reducible rfl)
  simp only [put_list, List.set_cons_succ, List.set_cons_zero]
  refine wpAnyH_takeL (i := 4) (v := ?_) rfl (by kernel_rfl) (by kernel_rfl) (by kernel_rfl) (fun _ _ _ h => h) (Or.inl ⟨by kernel_rfl, ?_⟩) hS ?_
  rotate_left
  · intro V hV
    go_simp
    (try with_reducible rfl)
  simp only [put_list, List.set_cons_succ, List.set_cons_zero]
  refine wpAnyH_takeL (i := 5) (v := .agg (ev m (k0))) rfl (by kernel_rfl) (by kernel_rfl) (by kernel_rfl) (fun _ _ _ h => h) (yields_loadC (by kernel_rfl) 32 _ rfl (g) (1) rfl (ev m (k0)) _ (fun V hV => (HG.out.below hV).zero) underE rfl (infoE (ev_size _ _))) hS ?_
  simp only [put_list, List.set_cons_succ, List.set_cons_zero]
  refine wpAnyH_takeL (i := 6) (v := .bool false) rfl (by kernel_rfl) (by kernel_rfl) (by kernel_rfl) (fun _ _ _ h => h) (yields_eql (by kernel_rfl) 32 32 (.tmp 16) (.tmp 20) rfl rfl rfl gqE (fun w => ((eqE 9998 HG.out.ok (z) (k0) w).trans (by rw [decide_eq_false hz])))) hS ?_
  simp only [put_list, List.set_cons_succ, List.set_cons_zero]
  refine wpAnyH_done (by kernel_rfl) ?_ _
  (try simp only [put_none])
  generalize W0.drew = x5 at hS ⊢
  refine HK1.out _ _ ?_
  clear HK1 K1
  have HG9 := hideP (HG.out.below hS)
  have H09 := hideP ((hS.block _ (lt_of_block H0.out)).trans H0.out)
  have H19 := hideP ((hS.block _ (lt_of_block H1.out)).trans H1.out)
  have Hr9 := hideP ((hS.block _ (lt_of_block Hr.out)).trans Hr.out)
  have HBW9 := hideP (HBW.out.trans (hS.mono (Nat.le_of_lt (lt_of_block H0.out))))
  clear hS HG HBW H0 H1 Hr 
  have HG := HG9
  clear HG9
  have HBW := HBW9
  clear HBW9
  have H0 := H09
  clear H09
  have H1 := H19
  clear H19
  have Hr := Hr9
  clear Hr9
  as_aux_lemma =>
    refine wp_cond_false rfl ?_
    refine wp_skip ?_
    refine HK2.out _ _ ?_
    clear HK2 K2
    refine wp_seqH (fun K1 HK1 => ?_)
    refine wp_region_list ?_
    have hS := Below.refl x5.heap.size x5
    refine wpList_oper rfl (fun K hK => ?_)
    go_simp
    refine hK _ _ ?_
    clear hK K
    refine wpList_oper rfl (fun K hK => ?_)
    go_simp
    refine hK _ _ ?_
    clear hK K
    refine wpList_oper rfl (fun K hK => ?_)
    go_simp
    refine hK _ _ ?_
    clear hK K
    refine wpList_oper rfl (fun K hK => ?_)
    have hf := (HG.out.below hS).fld
    go_simp
    refine hK _ _ ?_
    clear hK K hf
    refine wpList_oper rfl (fun K hK => ?_)
    go_simp
    refine hK _ _ ?_
    clear hK K
    refine wpList_nil ?_
    refine HK1.out _ _ ?_
    clear HK1 K1
    clear hS
    refine wp_seqH (fun K1 HK1 => ?_)
    refine wp_region_list ?_
    have hS := Below.refl x5.heap.size x5
    refine wpList_oper rfl (fun K hK => ?_)
    go_simp
    refine hK _ _ ?_
    clear hK K
    refine wpList_oper rfl (fun K hK => ?_)
    go_simp
    refine hK _ _ ?_
    clear hK K
    refine wpList_load_midD rfl 32 (.tmp 33) 34 rfl rfl (N) (8) (ev m (z)) rfl _ (sc_z ((hS.block _ (lt_of_block H0.out)).trans H0.out)) underE rfl (infoE (ev_size _ _)) ?_
    simp only [List.set_cons_succ, List.set_cons_zero]
    refine wpList_oper rfl (fun K hK => ?_)
    go_simp
    refine hK _ _ ?_
    clear hK K
    refine wpList_load_midD rfl 32 (.tmp 35) 36 rfl rfl (N) (8) (ev m (z)) rfl _ (sc_z ((hS.block _ (lt_of_block H0.out)).trans H0.out)) underE rfl (infoE (ev_size _ _)) ?_
    simp only [List.set_cons_succ, List.set_cons_zero]
    refine wpList_oper rfl (fun K hK => ?_)
    refine wp_invoke2D (.tmp 32) (.tmp 34) (.tmp 36) "Mul" _ 37 rfl rfl rfl rfl rfl (cm_Mul p _ _ _) (c_Mul ((HG.out.below hS).ok) (z) (z)) ?_
    intro x6 hbc
    refine hK _ _ ?_
    clear hK K
    have hS9 := hS.trans (hbc.mono hS.size)
    clear hS hbc
    have hS := hS9
    clear hS9
    simp only [List.set_cons_succ, List.set_cons_zero]
    refine wpList_oper rfl (fun K hK => ?_)
    go_simp
    refine hK _ _ ?_
    clear hK K
    refine at_worldL (fun x8 hw9 => ?_)
    have hB7 := heap_new x6 (.cells #[.int .u64 0, .int .u64 0, .int .u64 0, .int .u64 0] 32 (0, 0))
    have lB7 := hS.size
    have hS9 := hS.alloc hS.size (.cells #[.int .u64 0, .int .u64 0, .int .u64 0, .int .u64 0] 32 (0, 0))
    rw [← hw9] at hB7 hS9
    clear hS hw9
    have hS := hS9
    clear hS9
    generalize x6.heap.size = B7 at *
    refine wpList_store_midD rfl 32 (.tmp 8) (.tmp 37) rfl rfl (B7) 0 (ev m (kmul m (z) (z))) rfl rfl (there_of hB7 (zc_size.trans (ev_size _ _).symm)) (infoE (ev_size _ _)) (ev_one _ _) ?_
    have hB79 := blk_sets (ev m (kmul m (z) (z))).toList 0 hB7
    rw [putAll_eq (zc_size.trans (ev_size _ _).symm)] at hB79
    have hB1 := But.sets (ev m (kmul m (z) (z))).toList 0 (But.refl B7 x8)
    have hSB := hS.trans (hB1.below.mono lB7)
    clear hB1 hB7 hS
    have hB7 := hB79
    have hS := hSB
    clear hB79 hSB
    generalize World.setCells x8 B7 0 (ev m (kmul m (z) (z))).toList = x9 at *
    refine wpList_nil ?_
    refine HK1.out _ _ ?_
    clear HK1 K1
    have HG9 := hideP (HG.out.below hS)
    have H09 := hideP ((hS.block _ (lt_of_block H0.out)).trans H0.out)
    have H19 := hideP ((hS.block _ (lt_of_block H1.out)).trans H1.out)
    have Hr9 := hideP ((hS.block _ (lt_of_block Hr.out)).trans Hr.out)
    have HBW9 := hideP (HBW.out.trans (hS.mono (Nat.le_of_lt (lt_of_block H0.out))))
    have oB7 : B2 < B7 := by have := lt_of_block Hr.out; omega
    clear hS HG HBW H0 H1 Hr lB7
    have HG := HG9
    clear HG9
    have HBW := HBW9
    clear HBW9
    have H0 := H09
    clear H09
    have H1 := H19
    clear H19
    have Hr := Hr9
    clear Hr9
    have HB7 := hideP hB7
    clear hB7
    as_aux_lemma =>
      refine wp_seqH (fun K1 HK1 => ?_)
      refine region_late [18] (fun V => Below x9.heap.size x9 V) (by kernel_rfl) (Below.refl _ _).drew (fun hS => ?_)
      refine anyZ_take (i := 0) (g := 12) (v := ?_) rfl (by kernel_rfl) (by kernel_rfl) (by kernel_rfl) (by kernel_rfl) (by kernel_rfl) (fun _ _ _ h => h) (Or.inl ⟨by kernel_rfl, ?_⟩) hS ?_
      rotate_left
      · intro V hV
        go_simp
        (try with_reducible rfl)
      simp only [put_list, List.set_cons_succ, List.set_cons_zero]
      refine anyZ_take (i := 1) (g := 12) (v := ?_) rfl (by kernel_rfl) (by kernel_rfl) (by kernel_rfl) (by kernel_rfl) (by kernel_rfl) (fun _ _ _ h => h) (Or.inl ⟨by kernel_rfl, ?_⟩) hS ?_
      rotate_left
      · intro V hV
        go_simp
        (try with_reducible rfl)
      simp only [put_list, List.set_cons_succ, List.set_cons_zero]
      refine anyZ_take (i := 2) (g := 12) (v := .agg (ev m (a))) rfl (by kernel_rfl) (by kernel_rfl) (by kernel_rfl) (by kernel_rfl) (by kernel_rfl) (fun _ _ _ h => h) (yields_loadC (by kernel_rfl) 32 _ rfl (B1) (0) rfl (ev m (a)) _ (fun V hV => pl_x ((hV.block _ (lt_of_block H1.out)).trans H1.out)) underE rfl (infoE (ev_size _ _))) hS ?_
      simp only [put_list, List.set_cons_succ, List.set_cons_zero]
      refine anyZ_take (i := 3) (g := 12) (v := .agg (ev m (kmul m (z) (z)))) rfl (by kernel_rfl) (by kernel_rfl) (by kernel_rfl) (by kernel_rfl) (by kernel_rfl) (fun _ _ _ h => h) (yields_loadC (by kernel_rfl) 32 _ rfl (B7) (0) rfl (ev m (kmul m (z) (z))) _ (fun V hV => rangeOf ((hV.block _ (lt_of_block HB7.out)).trans HB7.out)) underE rfl (infoE (ev_size _ _))) hS ?_
      simp only [put_list, List.set_cons_succ, List.set_cons_zero]
      refine anyZ_take (i := 5) (g := 12) (v := ?_) rfl (by kernel_rfl) (by kernel_rfl) (by kernel_rfl) (by kernel_rfl) (by kernel_rfl) (fun _ _ _ h => h) (Or.inl ⟨by kernel_rfl, ?_⟩) hS ?_
      rotate_left
      · intro V hV
        go_simp
        (try with_reducible rfl)
      simp only [put_list, List.set_cons_succ, List.set_cons_zero]
      refine anyZ_take (i := 6) (g := 12) (v := ?_) rfl (by kernel_rfl) (by kernel_rfl) (by kernel_rfl) (by kernel_rfl) (by kernel_rfl) (fun _ _ _ h => h) (Or.inl ⟨by kernel_rfl, ?_⟩) hS ?_
      rotate_left
      · intro V hV
        go_simp
        (try with_reducible rfl)
      simp only [put_list, List.set_cons_succ, List.set_cons_zero]
      refine anyZ_take (i := 7) (g := 12) (v := .agg (ev m (c))) rfl (by kernel_rfl) (by kernel_rfl) (by kernel_rfl) (by kernel_rfl) (by kernel_rfl) (fun _ _ _ h => h) (yields_loadC (by kernel_rfl) 32 _ rfl (B1) (4) rfl (ev m (c)) _ (fun V hV => pl_y ((hV.block _ (lt_of_block H1.out)).trans H1.out)) underE rfl (infoE (ev_size _ _))) hS ?_
      simp only [put_list, List.set_cons_succ, List.set_cons_zero]
      refine anyZ_take (i := 8) (g := 12) (v := ?_) rfl (by kernel_rfl) (by kernel_rfl) (by kernel_rfl) (by kernel_rfl) (by kernel_rfl) (fun _ _ _ h => h) (Or.inl ⟨by kernel_rfl, ?_⟩) hS ?_
      rotate_left
      · intro V hV
        go_simp
        (try with_reducible rfl)
      simp only [put_list, List.set_cons_succ, List.set_cons_zero]
      refine anyZ_take (i := 9) (g := 12) (v := .agg (ev m (kmul m (z) (z)))) rfl (by kernel_rfl) (by kernel_rfl) (by kernel_rfl) (by kernel_rfl) (by kernel_rfl) (fun _ _ _ h => h) (yields_loadC (by kernel_rfl) 32 _ rfl (B7) (0) rfl (ev m (kmul m (z) (z))) _ (fun V hV => rangeOf ((hV.block _ (lt_of_block HB7.out)).trans HB7.out)) underE rfl (infoE (ev_size _ _))) hS ?_
      simp only [put_list, List.set_cons_succ, List.set_cons_zero]
      refine anyZ_take (i := 10) (g := 12) (v := ?_) rfl (by kernel_rfl) (by kernel_rfl) (by kernel_rfl) (by kernel_rfl) (by kernel_rfl) (fun _ _ _ h => h) (Or.inl ⟨by kernel_rfl, ?_⟩) hS ?_
      rotate_left
      · intro V hV
        go_simp
        (try with_reducible rfl)
      simp only [put_list, List.set_cons_succ, List.set_cons_zero]
      refine anyZ_take (i := 11) (g := 12) (v := .agg (ev m (z))) rfl (by kernel_rfl) (by kernel_rfl) (by kernel_rfl) (by kernel_rfl) (by kernel_rfl) (fun _ _ _ h => h) (yields_loadC (by kernel_rfl) 32 _ rfl (N) (8) rfl (ev m (z)) _ (fun V hV => sc_z ((hV.block _ (lt_of_block H0.out)).trans H0.out)) underE rfl (infoE (ev_size _ _))) hS ?_
      simp only [put_list, List.set_cons_succ, List.set_cons_zero]
      refine anyZ_take (i := 13) (g := 12) (v := ?_) rfl (by kernel_rfl) (by kernel_rfl) (by kernel_rfl) (by kernel_rfl) (by kernel_rfl) (fun _ _ _ h => h) (Or.inl ⟨by kernel_rfl, ?_⟩) hS ?_
      rotate_left
      · intro V hV
        go_simp
        (try with_reducible rfl)
      simp only [put_list, List.set_cons_succ, List.set_cons_zero]
      refine anyZ_take (i := 14) (g := 12) (v := .func (.method "Mul") #[ifv p] #[]) rfl (by kernel_rfl) (by kernel_rfl) (by kernel_rfl) (by kernel_rfl) (by kernel_rfl) (fun _ _ _ h => h) (yields_nilm (by kernel_rfl) (.tmp 51) rfl rfl (na_Mul p)) hS ?_
      simp only [put_list, List.set_cons_succ, List.set_cons_zero]
      refine anyZ_take (i := 15) (g := 12) (v := ?_) rfl (by kernel_rfl) (by kernel_rfl) (by kernel_rfl) (by kernel_rfl) (by kernel_rfl) (fun _ _ _ h => h) (Or.inl ⟨by kernel_rfl, ?_⟩) hS ?_
      rotate_left
      · intro V hV
        go_simp
        (try with_reducible rfl)
      simp only [put_list, List.set_cons_succ, List.set_cons_zero]
      refine anyZ_one (i := 4) (by kernel_rfl) rfl (fun K hK => ?_)
      refine ite_wp (by kernel_rfl) ?_
      refine wp_invoke2D (.tmp 38) (.tmp 40) (.tmp 41) "Mul" _ 42 rfl rfl rfl rfl rfl (cm_Mul p _ _ _) (c_Mul ((HG.out.below hS).ok) (a) (kmul m (z) (z))) ?_
      intro x10 hbc
      have hS9 := hS.trans (hbc.mono hS.size)
      refine hK.out _ _ (fun _ => hS9) ?_
      clear hK K hbc hS
      have hS := hS9
      clear hS9
      simp only [List.set_cons_succ, List.set_cons_zero]
      refine anyZ_one (i := 12) (by kernel_rfl) rfl (fun K hK => ?_)
      refine ite_wp (by kernel_rfl) ?_
      refine wp_invoke2D (.tmp 46) (.tmp 47) (.tmp 49) "Mul" _ 50 rfl rfl rfl rfl rfl (cm_Mul p _ _ _) (c_Mul ((HG.out.below hS).ok) (kmul m (z) (z)) (z)) ?_
      intro x11 hbc
      have hS9 := hS.trans (hbc.mono hS.size)
      refine hK.out _ _ (fun _ => hS9) ?_
      clear hK K hbc hS
      have hS := hS9
      clear hS9
      simp only [List.set_cons_succ, List.set_cons_zero]
      refine anyZ_one (i := 16) (by kernel_rfl) rfl (fun K hK => ?_)
      refine ite_wp (by kernel_rfl) ?_
      refine wp_invoke2D (.tmp 53) (.tmp 45) (.tmp 50) "Mul" _ 54 rfl rfl rfl rfl rfl (cm_Mul p _ _ _) (c_Mul ((HG.out.below hS).ok) (c) (kmul m (kmul m (z) (z)) (z))) ?_
      intro x12 hbc
      have hS9 := hS.trans (hbc.mono hS.size)
      refine hK.out _ _ (fun _ => hS9) ?_
      clear hK K hbc hS
      have hS := hS9
      clear hS9
      simp only [List.set_cons_succ, List.set_cons_zero]
      refine anyZ_take (i := 17) (g := 12) (v := .agg (pl m (kmul m (a) (kmul m (z) (z))) (kmul m (c) (kmul m (kmul m (z) (z)) (z))))) rfl (by kernel_rfl) (by kernel_rfl) (by kernel_rfl) (by kernel_rfl) (by kernel_rfl) (fun _ _ _ h => h) (yields_build2 (by kernel_rfl) 262 (.tmp 42) (.tmp 54) rfl rfl rfl (bd_pl _ _ _)) hS ?_
      simp only [put_list, List.set_cons_succ, List.set_cons_zero]
      have hQ := (KQ.start H1.out (pl_size _ _ _)).call hS
      refine anyZ_one (i := 18) (by kernel_rfl) rfl (fun K hK => ?_)
      refine ite_wp (by kernel_rfl) ?_
      refine wp_store_midN 262 (.tmp 5) (.tmp 55) rfl rfl (B1) 0 (pl m (kmul m (a) (kmul m (z) (z))) (kmul m (c) (kmul m (kmul m (z) (z)) (z)))) rfl rfl (hQ.there (pl_size _ _ _)) (infoPl (pl_size _ _ _)) (pl_one _ _ _) ?_
      have g1 := hQ.put (C := pl m (kmul m (a) (kmul m (z) (z))) (kmul m (c) (kmul m (kmul m (z) (z)) (z)))) (pl_size _ _ _)
      have hS9 := hQ.store (C := pl m (kmul m (a) (kmul m (z) (z))) (kmul m (c) (kmul m (kmul m (z) (z)) (z)))) (pl_size _ _ _)
      clear hS hQ
      have hS := hS9
      clear hS9
      generalize World.setCells _ (B1) 0 (pl m (kmul m (a) (kmul m (z) (z))) (kmul m (c) (kmul m (kmul m (z) (z)) (z)))).toList = x13 at g1 hS ⊢
      refine hK.out _ _ (fun h => absurd (by decide) h) ?_
      clear hK K
      refine anyZ_done (by kernel_rfl) ?_ _
      (try simp only [put_none])
      refine HK1.out _ _ ?_
      clear HK1 K1
      have HG9 := hideP (HG.out.kq hS (by omega) (by omega))
      have H09 := hideP (hS.box H0.out (by omega))
      have Hr9 := hideP (hS.box Hr.out (by omega))
      have HB79 := hideP (hS.box HB7.out (by omega))
      have HBW9 := hideP (HBW.out.trans (hS.below.mono (by omega)))
      have H19 := hideP g1
      clear hS g1 HG HBW H0 H1 Hr HB7
      have HG := HG9
      clear HG9
      have HBW := HBW9
      clear HBW9
      have H0 := H09
      clear H09
      have H1 := H19
      clear H19
      have Hr := Hr9
      clear Hr9
      have HB7 := HB79
      clear HB79
      as_aux_lemma =>
        refine wp_seqH (fun K2 HK2 => ?_)
        refine wp_seqH (fun K1 HK1 => ?_)
        refine wp_region_list ?_
        have hS := Below.refl x13.heap.size x13
        refine wpList_load_midD rfl 262 (.tmp 5) 56 rfl rfl (B1) (0) (pl m (kmul m (a) (kmul m (z) (z))) (kmul m (c) (kmul m (kmul m (z) (z)) (z)))) rfl _ (rangeOf ((hS.block _ (lt_of_block H1.out)).trans H1.out)) underPl rfl (infoPl (pl_size _ _ _)) ?_
        simp only [List.set_cons_succ, List.set_cons_zero]
        refine wpList_oper rfl (fun K hK => ?_)
        go_simp
        refine hK _ _ ?_
        clear hK K
        refine wpList_load_midD rfl 262 (.tmp 57) 58 rfl rfl (N) (0) (pl m (x) (y)) rfl _ (sc_pl ((hS.block _ (lt_of_block H0.out)).trans H0.out)) underPl rfl (infoPl (pl_size _ _ _)) ?_
        simp only [List.set_cons_succ, List.set_cons_zero]
        refine wpList_oper rfl (fun K hK => ?_)
        refine wp_eqlD 262 262 (.tmp 56) (.tmp 58) 59 rfl rfl rfl rfl gqPl ((eqPl HG.out.ok (kmul m (a) (kmul m (z) (z))) (kmul m (c) (kmul m (kmul m (z) (z)) (z))) (x) (y) _).trans (by rw [← Bool.decide_and, decide_eq_false hq])) ?_
        refine hK _ _ ?_
        clear hK K
        simp only [List.set_cons_succ, List.set_cons_zero]
        refine wpList_nil ?_
        refine HK1.out _ _ ?_
        clear HK1 K1
        clear hS
        refine wp_cond_false rfl ?_
        refine wp_skip ?_
        refine HK2.out _ _ ?_
        clear HK2 K2
        refine wp_seqH (fun K1 HK1 => ?_)
        refine wp_region_heldS (S := fun V => Below x13.heap.size x13 V) (by kernel_rfl) (Below.refl _ _).drew (fun hS => ?_)
        refine wpAnyH_takeL (i := 0) (v := ?_) rfl (by kernel_rfl) (by kernel_rfl) (by kernel_rfl) (fun _ _ _ h => h) (Or.inl ⟨by kernel_rfl, ?_⟩) hS ?_
        rotate_left
        · intro V hV
          go_simp
          (try with_reducible rfl)
        simp only [put_list, List.set_cons_succ, List.set_cons_zero]
        refine wpAnyH_takeL (i := 1) (v := ?_) rfl (by kernel_rfl) (by kernel_rfl) (by kernel_rfl) (fun _ _ _ h => h) (Or.inl ⟨by kernel_rfl, ?_⟩) hS ?_
        rotate_left
        · intro V hV
          go_simp
          (try with_reducible rfl)
        simp only [put_list, List.set_cons_succ, List.set_cons_zero]
        refine wpAnyH_takeL (i := 2) (v := .agg (ev m (kmul m (a) (kmul m (z) (z))))) rfl (by kernel_rfl) (by kernel_rfl) (by kernel_rfl) (fun _ _ _ h => h) (yields_loadC (by kernel_rfl) 32 _ rfl (B1) (0) rfl (ev m (kmul m (a) (kmul m (z) (z)))) _ (fun V hV => pl_x ((hV.block _ (lt_of_block H1.out)).trans H1.out)) underE rfl (infoE (ev_size _ _))) hS ?_
        simp only [put_list, List.set_cons_succ, List.set_cons_zero]
        refine wpAnyH_takeL (i := 3) (v := ?_) rfl (by kernel_rfl) (by kernel_rfl) (by kernel_rfl) (fun _ _ _ h => h) (Or.inl ⟨by kernel_rfl, ?_⟩) hS ?_
        rotate_left
        · intro V hV
          go_simp
          (try with_reducible rfl)
        simp only [put_list, List.set_cons_succ, List.set_cons_zero]
        refine wpAnyH_takeL (i := 4) (v := ?_) rfl (by kernel_rfl) (by kernel_rfl) (by kernel_rfl) (fun _ _ _ h => h) (Or.inl ⟨by kernel_rfl, ?_⟩) hS ?_
        rotate_left
        · intro V hV
          go_simp
          (try with_reducible rfl)
        simp only [put_list, List.set_cons_succ, List.set_cons_zero]
        refine wpAnyH_takeL (i := 5) (v := .agg (ev m (x))) rfl (by kernel_rfl) (by kernel_rfl) (by kernel_rfl) (fun _ _ _ h => h) (yields_loadC (by kernel_rfl) 32 _ rfl (N) (0) rfl (ev m (x)) _ (fun V hV => sc_x ((hV.block _ (lt_of_block H0.out)).trans H0.out)) underE rfl (infoE (ev_size _ _))) hS ?_
        simp only [put_list, List.set_cons_succ, List.set_cons_zero]
        refine wpAnyH_takeL (i := 7) (v := ?_) rfl (by kernel_rfl) (by kernel_rfl) (by kernel_rfl) (fun _ _ _ h => h) (Or.inl ⟨by kernel_rfl, ?_⟩) hS ?_
        rotate_left
        · intro V hV
          go_simp
          (try with_reducible rfl)
        simp only [put_list, List.set_cons_succ, List.set_cons_zero]
        refine wpAnyH_takeL (i := 8) (v := ?_) rfl (by kernel_rfl) (by kernel_rfl) (by kernel_rfl) (fun _ _ _ h => h) (Or.inl ⟨by kernel_rfl, ?_⟩) hS ?_
        rotate_left
        · intro V hV
          go_simp
          (try with_reducible rfl)
        simp only [put_list, List.set_cons_succ, List.set_cons_zero]
        refine wpAnyH_takeL (i := 9) (v := .agg (ev m (kmul m (c) (kmul m (kmul m (z) (z)) (z))))) rfl (by kernel_rfl) (by kernel_rfl) (by kernel_rfl) (fun _ _ _ h => h) (yields_loadC (by kernel_rfl) 32 _ rfl (B1) (4) rfl (ev m (kmul m (c) (kmul m (kmul m (z) (z)) (z)))) _ (fun V hV => pl_y ((hV.block _ (lt_of_block H1.out)).trans H1.out)) underE rfl (infoE (ev_size _ _))) hS ?_
        simp only [put_list, List.set_cons_succ, List.set_cons_zero]
        refine wpAnyH_takeL (i := 10) (v := ?_) rfl (by kernel_rfl) (by kernel_rfl) (by kernel_rfl) (fun _ _ _ h => h) (Or.inl ⟨by kernel_rfl, ?_⟩) hS ?_
        rotate_left
        · intro V hV
          go_simp
          (try with_reducible rfl)
        simp only [put_list, List.set_cons_succ, List.set_cons_zero]
        refine wpAnyH_takeL (i := 11) (v := ?_) rfl (by kernel_rfl) (by kernel_rfl) (by kernel_rfl) (fun _ _ _ h => h) (Or.inl ⟨by kernel_rfl, ?_⟩) hS ?_
        rotate_left
        · intro V hV
          go_simp
          (try with_reducible rfl)
        simp only [put_list, List.set_cons_succ, List.set_cons_zero]
        refine wpAnyH_takeL (i := 12) (v := .agg (ev m (y))) rfl (by kernel_rfl) (by kernel_rfl) (by kernel_rfl) (fun _ _ _ h => h) (yields_loadC (by kernel_rfl) 32 _ rfl (N) (4) rfl (ev m (y)) _ (fun V hV => sc_y ((hV.block _ (lt_of_block H0.out)).trans H0.out)) underE rfl (infoE (ev_size _ _))) hS ?_
        simp only [put_list, List.set_cons_succ, List.set_cons_zero]

        refine regionQ (r0 := 2) 2 (fun k => match k with | 0 => 6 | _ => 13) (fun k => match k with | 0 => 69 | _ => 76) (fun k => match k with | 0 => .agg (ev m (ksub m (kmul m (a) (kmul m (z) (z))) (x))) | _ => .agg (ev m (ksub m (kmul m (c) (kmul m (kmul m (z) (z)) (z))) (y)))) (fun i p q => #[true, true, true, true, true, true, decide (0 < i), true, true, true, true, true, true, decide (1 < i), p, q, false, false] : Nat → Bool → Bool → Array Bool) #[.int .u64 0, .int .u64 0, .int .u64 0, .int .u64 0] 32 14 15 9 10 (by kernel_rfl) (by decide) (by decide) (by kernel_rfl) hS ?_ ?_ ?_ ?_
        · intro i hi T w2 K hW2 hT hK
          match i, hi with
          | 0, _ =>
            have t63 : T[63]? = some (ifv p) := hT 63 (by decide) (by decide)
            have t65 : T[65]? = some (.agg (ev m (kmul m (a) (kmul m (z) (z))))) := hT 65 (by decide) (by decide)
            have t68 : T[68]? = some (.agg (ev m (x))) := hT 68 (by decide) (by decide)
            refine wpOp_stepT (i := 6) rfl (fun K' hK' => ?_)
            refine ite_wp (by kernel_rfl) ?_
            refine wp_invoke2D (.tmp 63) (.tmp 65) (.tmp 68) "Sub" _ 69 rfl rfl (eval_get t63) (eval_get t65) (eval_get t68) (cm_Sub p _ _ _) (c_Sub ((HG.out.below hW2).ok) (kmul m (a) (kmul m (z) (z))) (x)) ?_
            intro w3 hb
            exact hK' _ _ (hK w3 hb)
          | 1, _ =>
            have t70 : T[70]? = some (ifv p) := hT 70 (by decide) (by decide)
            have t72 : T[72]? = some (.agg (ev m (kmul m (c) (kmul m (kmul m (z) (z)) (z))))) := hT 72 (by decide) (by decide)
            have t75 : T[75]? = some (.agg (ev m (y))) := hT 75 (by decide) (by decide)
            refine wpOp_stepT (i := 13) rfl (fun K' hK' => ?_)
            refine ite_wp (by kernel_rfl) ?_
            refine wp_invoke2D (.tmp 70) (.tmp 72) (.tmp 75) "Sub" _ 76 rfl rfl (eval_get t70) (eval_get t72) (eval_get t75) (cm_Sub p _ _ _) (c_Sub ((HG.out.below hW2).ok) (kmul m (c) (kmul m (kmul m (z) (z)) (z))) (y)) ?_
            intro w3 hb
            exact hK' _ _ (hK w3 hb)
          | k' + 2, h => exact absurd h (by omega)
        · intro T w2 K hK
          refine wpOp_stepT rfl (fun K' hK' => ?_)
          have HK' := hideP hK'
          have HK9 := hideP hK
          clear hK hK'
          go_simp
          exact HK'.out _ _ HK9.out
        · intro T w2 K hK
          refine wpOp_stepT rfl (fun K' hK' => ?_)
          have HK' := hideP hK'
          have HK9 := hideP hK
          clear hK hK'
          go_simp
          exact HK'.out _ _ HK9.out
        intro x16 B14 B15 hS lB14 lB15 hB14 hB15 hne
        simp only [TC, List.set_cons_succ, List.set_cons_zero]
        refine wpAnyH_ready (rs := [16]) (by kernel_rfl) (by simp) (AllReadyH.cons rfl (fun K hK => ?_) AllReadyH.nil)
        refine ite_wp (by kernel_rfl) ?_
        refine wp_store_midN 32 (.tmp 9) (.tmp 69) rfl rfl (B14) 0 (ev m (ksub m (kmul m (a) (kmul m (z) (z))) (x))) rfl rfl (there_of hB14 (zc_size.trans (ev_size _ _).symm)) (infoE (ev_size _ _)) (ev_one _ _) ?_
        have hB149 := blk_sets (ev m (ksub m (kmul m (a) (kmul m (z) (z))) (x))).toList 0 hB14
        rw [putAll_eq (zc_size.trans (ev_size _ _).symm)] at hB149
        have hB1 := But.sets (ev m (ksub m (kmul m (a) (kmul m (z) (z))) (x))).toList 0 (But.refl B14 x16)
        have hSB := hS.trans (hB1.below.mono lB14)
        have hB159 := (hB1.same _ (by omega)).trans hB15
        clear hB15
        have hB15 := hB159
        clear hB159
        clear hB1 hB14
        have hB14 := hB149
        clear hB149
        generalize World.setCells x16 B14 0 (ev m (ksub m (kmul m (a) (kmul m (z) (z))) (x))).toList = x17 at *
        refine hK.out _ _ hSB (fun hS => ?_)
        clear hK K hSB
        refine wpAnyH_ready (rs := [17]) (by kernel_rfl) (by simp) (AllReadyH.cons rfl (fun K hK => ?_) AllReadyH.nil)
        refine ite_wp (by kernel_rfl) ?_
        refine wp_store_midN 32 (.tmp 10) (.tmp 76) rfl rfl (B15) 0 (ev m (ksub m (kmul m (c) (kmul m (kmul m (z) (z)) (z))) (y))) rfl rfl (there_of hB15 (zc_size.trans (ev_size _ _).symm)) (infoE (ev_size _ _)) (ev_one _ _) ?_
        have hB159 := blk_sets (ev m (ksub m (kmul m (c) (kmul m (kmul m (z) (z)) (z))) (y))).toList 0 hB15
        rw [putAll_eq (zc_size.trans (ev_size _ _).symm)] at hB159
        have hB1 := But.sets (ev m (ksub m (kmul m (c) (kmul m (kmul m (z) (z)) (z))) (y))).toList 0 (But.refl B15 x17)
        have hSB := hS.trans (hB1.below.mono lB15)
        have hB149 := (hB1.same _ (by omega)).trans hB14
        clear hB14
        have hB14 := hB149
        clear hB149
        clear hB1 hB15
        have hB15 := hB159
        clear hB159
        generalize World.setCells x17 B15 0 (ev m (ksub m (kmul m (c) (kmul m (kmul m (z) (z)) (z))) (y))).toList = x18 at *
        refine hK.out _ _ hSB (fun hS => ?_)
        clear hK K hSB
        refine wpAnyH_done (by kernel_rfl) ?_ _
        (try simp only [put_none])
        refine HK1.out _ _ ?_
        clear HK1 K1
        have HG9 := hideP (HG.out.below hS)
        have H09 := hideP ((hS.block _ (lt_of_block H0.out)).trans H0.out)
        have H19 := hideP ((hS.block _ (lt_of_block H1.out)).trans H1.out)
        have Hr9 := hideP ((hS.block _ (lt_of_block Hr.out)).trans Hr.out)
        have HB79 := hideP ((hS.block _ (lt_of_block HB7.out)).trans HB7.out)
        have HBW9 := hideP (HBW.out.trans (hS.mono (Nat.le_of_lt (lt_of_block H0.out))))
        have oB14 : B7 < B14 := by have := lt_of_block HB7.out; omega
        have oB15 : B7 < B15 := by have := lt_of_block HB7.out; omega
        clear hS HG HBW H0 H1 Hr HB7 lB14 lB15
        have HG := HG9
        clear HG9
        have HBW := HBW9
        clear HBW9
        have H0 := H09
        clear H09
        have H1 := H19
        clear H19
        have Hr := Hr9
        clear Hr9
        have HB7 := HB79
        clear HB79
        have HB14 := hideP hB14
        clear hB14
        have HB15 := hideP hB15
        clear hB15
        as_aux_lemma =>
          refine wp_seqH (fun K1 HK1 => ?_)
          refine wp_region_list ?_
          have hS := Below.refl x18.heap.size x18
          refine wpList_oper rfl (fun K hK => ?_)
          go_simp
          refine hK _ _ ?_
          clear hK K
          refine wpList_load_midD rfl 32 (.tmp 9) 78 rfl rfl (B14) (0) (ev m (ksub m (kmul m (a) (kmul m (z) (z))) (x))) rfl _ (rangeOf ((hS.block _ (lt_of_block HB14.out)).trans HB14.out)) underE rfl (infoE (ev_size _ _)) ?_
          simp only [List.set_cons_succ, List.set_cons_zero]
          refine wpList_load_midD rfl 32 (.tmp 9) 79 rfl rfl (B14) (0) (ev m (ksub m (kmul m (a) (kmul m (z) (z))) (x))) rfl _ (rangeOf ((hS.block _ (lt_of_block HB14.out)).trans HB14.out)) underE rfl (infoE (ev_size _ _)) ?_
          simp only [List.set_cons_succ, List.set_cons_zero]
          refine wpList_oper rfl (fun K hK => ?_)
          refine wp_invoke2D (.tmp 77) (.tmp 78) (.tmp 79) "Mul" _ 80 rfl rfl rfl rfl rfl (cm_Mul p _ _ _) (c_Mul ((HG.out.below hS).ok) (ksub m (kmul m (a) (kmul m (z) (z))) (x)) (ksub m (kmul m (a) (kmul m (z) (z))) (x))) ?_
          intro x19 hbc
          refine hK _ _ ?_
          clear hK K
          have hS9 := hS.trans (hbc.mono hS.size)
          clear hS hbc
          have hS := hS9
          clear hS9
          simp only [List.set_cons_succ, List.set_cons_zero]
          have hQ := (KQ.start HB7.out (ev_size _ _)).call hS
          refine wpList_store_midD rfl 32 (.tmp 8) (.tmp 80) rfl rfl (B7) 0 (ev m (kmul m (ksub m (kmul m (a) (kmul m (z) (z))) (x)) (ksub m (kmul m (a) (kmul m (z) (z))) (x)))) rfl rfl (hQ.there (ev_size _ _)) (infoE (ev_size _ _)) (ev_one _ _) ?_
          have g1 := hQ.put (C := ev m (kmul m (ksub m (kmul m (a) (kmul m (z) (z))) (x)) (ksub m (kmul m (a) (kmul m (z) (z))) (x)))) (ev_size _ _)
          have hS9 := hQ.store (C := ev m (kmul m (ksub m (kmul m (a) (kmul m (z) (z))) (x)) (ksub m (kmul m (a) (kmul m (z) (z))) (x)))) (ev_size _ _)
          clear hS hQ
          have hS := hS9
          clear hS9
          generalize World.setCells _ (B7) 0 (ev m (kmul m (ksub m (kmul m (a) (kmul m (z) (z))) (x)) (ksub m (kmul m (a) (kmul m (z) (z))) (x)))).toList = x20 at g1 hS ⊢
          refine wpList_nil ?_
          refine HK1.out _ _ ?_
          clear HK1 K1
          have HG9 := hideP (HG.out.kq hS (by omega) (by omega))
          have H09 := hideP (hS.box H0.out (by omega))
          have H19 := hideP (hS.box H1.out (by omega))
          have Hr9 := hideP (hS.box Hr.out (by omega))
          have HB149 := hideP (hS.box HB14.out (by omega))
          have HB159 := hideP (hS.box HB15.out (by omega))
          have HBW9 := hideP (HBW.out.trans (hS.below.mono (by omega)))
          have HB79 := hideP g1
          clear hS g1 HG HBW H0 H1 Hr HB7 HB14 HB15
          have HG := HG9
          clear HG9
          have HBW := HBW9
          clear HBW9
          have H0 := H09
          clear H09
          have H1 := H19
          clear H19
          have Hr := Hr9
          clear Hr9
          have HB7 := HB79
          clear HB79
          have HB14 := HB149
          clear HB149
          have HB15 := HB159
          clear HB159
          as_aux_lemma =>
            refine wp_seqH (fun K1 HK1 => ?_)
            refine wp_region_heldS (S := fun V => Below x20.heap.size x20 V) (by kernel_rfl) (Below.refl _ _).drew (fun hS => ?_)
            refine wpAnyH_takeL (i := 0) (v := ?_) rfl (by kernel_rfl) (by kernel_rfl) (by kernel_rfl) (fun _ _ _ h => h) (Or.inl ⟨by kernel_rfl, ?_⟩) hS ?_
            rotate_left
            · intro V hV
              go_simp
              (try with_reducible rfl)
            simp only [put_list, List.set_cons_succ, List.set_cons_zero]
            refine wpAnyH_takeL (i := 1) (v := .agg (ev m (kmul m (ksub m (kmul m (a) (kmul m (z) (z))) (x)) (ksub m (kmul m (a) (kmul m (z) (z))) (x))))) rfl (by kernel_rfl) (by kernel_rfl) (by kernel_rfl) (fun _ _ _ h => h) (yields_loadC (by kernel_rfl) 32 _ rfl (B7) (0) rfl (ev m (kmul m (ksub m (kmul m (a) (kmul m (z) (z))) (x)) (ksub m (kmul m (a) (kmul m (z) (z))) (x)))) _ (fun V hV => rangeOf ((hV.block _ (lt_of_block HB7.out)).trans HB7.out)) underE rfl (infoE (ev_size _ _))) hS ?_
            simp only [put_list, List.set_cons_succ, List.set_cons_zero]
            refine wpAnyH_takeL (i := 2) (v := .agg (ev m (ksub m (kmul m (a) (kmul m (z) (z))) (x)))) rfl (by kernel_rfl) (by kernel_rfl) (by kernel_rfl) (fun _ _ _ h => h) (yields_loadC (by kernel_rfl) 32 _ rfl (B14) (0) rfl (ev m (ksub m (kmul m (a) (kmul m (z) (z))) (x))) _ (fun V hV => rangeOf ((hV.block _ (lt_of_block HB14.out)).trans HB14.out)) underE rfl (infoE (ev_size _ _))) hS ?_
            simp only [put_list, List.set_cons_succ, List.set_cons_zero]
            refine wpAnyH_takeL (i := 4) (v := ?_) rfl (by kernel_rfl) (by kernel_rfl) (by kernel_rfl) (fun _ _ _ h => h) (Or.inl ⟨by kernel_rfl, ?_⟩) hS ?_
            rotate_left
            · intro V hV
              go_simp
              (try with_reducible rfl)
            simp only [put_list, List.set_cons_succ, List.set_cons_zero]
            refine wpAnyH_takeL (i := 5) (v := ?_) rfl (by kernel_rfl) (by kernel_rfl) (by kernel_rfl) (fun _ _ _ h => h) (Or.inl ⟨by kernel_rfl, ?_⟩) hS ?_
            rotate_left
            · intro V hV
              go_simp
              (try with_reducible rfl)
            simp only [put_list, List.set_cons_succ, List.set_cons_zero]
            refine wpAnyH_takeL (i := 6) (v := ?_) rfl (by kernel_rfl) (by kernel_rfl) (by kernel_rfl) (fun _ _ _ h => h) (Or.inl ⟨by kernel_rfl, ?_⟩) hS ?_
            rotate_left
            · intro V hV
              go_simp
              (try with_reducible rfl)
            simp only [put_list, List.set_cons_succ, List.set_cons_zero]
            refine wpAnyH_takeL (i := 7) (v := .agg (ev m (x))) rfl (by kernel_rfl) (by kernel_rfl) (by kernel_rfl) (fun _ _ _ h => h) (yields_loadC (by kernel_rfl) 32 _ rfl (N) (0) rfl (ev m (x)) _ (fun V hV => sc_x ((hV.block _ (lt_of_block H0.out)).trans H0.out)) underE rfl (infoE (ev_size _ _))) hS ?_
            simp only [put_list, List.set_cons_succ, List.set_cons_zero]
            refine wpAnyH_takeL (i := 8) (v := .agg (ev m (kmul m (ksub m (kmul m (a) (kmul m (z) (z))) (x)) (ksub m (kmul m (a) (kmul m (z) (z))) (x))))) rfl (by kernel_rfl) (by kernel_rfl) (by kernel_rfl) (fun _ _ _ h => h) (yields_loadC (by kernel_rfl) 32 _ rfl (B7) (0) rfl (ev m (kmul m (ksub m (kmul m (a) (kmul m (z) (z))) (x)) (ksub m (kmul m (a) (kmul m (z) (z))) (x)))) _ (fun V hV => rangeOf ((hV.block _ (lt_of_block HB7.out)).trans HB7.out)) underE rfl (infoE (ev_size _ _))) hS ?_
            simp only [put_list, List.set_cons_succ, List.set_cons_zero]

            refine regionQ (r0 := 2) 2 (fun k => match k with | 0 => 3 | _ => 9) (fun k => match k with | 0 => 84 | _ => 90) (fun k => match k with | 0 => .agg (ev m (kmul m (kmul m (ksub m (kmul m (a) (kmul m (z) (z))) (x)) (ksub m (kmul m (a) (kmul m (z) (z))) (x))) (ksub m (kmul m (a) (kmul m (z) (z))) (x)))) | _ => .agg (ev m (kmul m (x) (kmul m (ksub m (kmul m (a) (kmul m (z) (z))) (x)) (ksub m (kmul m (a) (kmul m (z) (z))) (x)))))) (fun i p q => #[true, true, true, decide (0 < i), true, true, true, true, true, decide (1 < i), p, q, false, false] : Nat → Bool → Bool → Array Bool) #[.int .u64 0, .int .u64 0, .int .u64 0, .int .u64 0] 32 10 11 11 12 (by kernel_rfl) (by decide) (by decide) (by kernel_rfl) hS ?_ ?_ ?_ ?_
            · intro i hi T w2 K hW2 hT hK
              match i, hi with
              | 0, _ =>
                have t81 : T[81]? = some (ifv p) := hT 81 (by decide) (by decide)
                have t82 : T[82]? = some (.agg (ev m (kmul m (ksub m (kmul m (a) (kmul m (z) (z))) (x)) (ksub m (kmul m (a) (kmul m (z) (z))) (x))))) := hT 82 (by decide) (by decide)
                have t83 : T[83]? = some (.agg (ev m (ksub m (kmul m (a) (kmul m (z) (z))) (x)))) := hT 83 (by decide) (by decide)
                refine wpOp_stepT (i := 3) rfl (fun K' hK' => ?_)
                refine ite_wp (by kernel_rfl) ?_
                refine wp_invoke2D (.tmp 81) (.tmp 82) (.tmp 83) "Mul" _ 84 rfl rfl (eval_get t81) (eval_get t82) (eval_get t83) (cm_Mul p _ _ _) (c_Mul ((HG.out.below hW2).ok) (kmul m (ksub m (kmul m (a) (kmul m (z) (z))) (x)) (ksub m (kmul m (a) (kmul m (z) (z))) (x))) (ksub m (kmul m (a) (kmul m (z) (z))) (x))) ?_
                intro w3 hb
                exact hK' _ _ (hK w3 hb)
              | 1, _ =>
                have t85 : T[85]? = some (ifv p) := hT 85 (by decide) (by decide)
                have t88 : T[88]? = some (.agg (ev m (x))) := hT 88 (by decide) (by decide)
                have t89 : T[89]? = some (.agg (ev m (kmul m (ksub m (kmul m (a) (kmul m (z) (z))) (x)) (ksub m (kmul m (a) (kmul m (z) (z))) (x))))) := hT 89 (by decide) (by decide)
                refine wpOp_stepT (i := 9) rfl (fun K' hK' => ?_)
                refine ite_wp (by kernel_rfl) ?_
                refine wp_invoke2D (.tmp 85) (.tmp 88) (.tmp 89) "Mul" _ 90 rfl rfl (eval_get t85) (eval_get t88) (eval_get t89) (cm_Mul p _ _ _) (c_Mul ((HG.out.below hW2).ok) (x) (kmul m (ksub m (kmul m (a) (kmul m (z) (z))) (x)) (ksub m (kmul m (a) (kmul m (z) (z))) (x)))) ?_
                intro w3 hb
                exact hK' _ _ (hK w3 hb)
              | k' + 2, h => exact absurd h (by omega)
            · intro T w2 K hK
              refine wpOp_stepT rfl (fun K' hK' => ?_)
              have HK' := hideP hK'
              have HK9 := hideP hK
              clear hK hK'
              go_simp
              exact HK'.out _ _ HK9.out
            · intro T w2 K hK
              refine wpOp_stepT rfl (fun K' hK' => ?_)
              have HK' := hideP hK'
              have HK9 := hideP hK
              clear hK hK'
              go_simp
              exact HK'.out _ _ HK9.out
            intro x23 B21 B22 hS lB21 lB22 hB21 hB22 hne
            simp only [TC, List.set_cons_succ, List.set_cons_zero]
            refine wpAnyH_ready (rs := [12]) (by kernel_rfl) (by simp) (AllReadyH.cons rfl (fun K hK => ?_) AllReadyH.nil)
            refine ite_wp (by kernel_rfl) ?_
            refine wp_store_midN 32 (.tmp 11) (.tmp 84) rfl rfl (B21) 0 (ev m (kmul m (kmul m (ksub m (kmul m (a) (kmul m (z) (z))) (x)) (ksub m (kmul m (a) (kmul m (z) (z))) (x))) (ksub m (kmul m (a) (kmul m (z) (z))) (x)))) rfl rfl (there_of hB21 (zc_size.trans (ev_size _ _).symm)) (infoE (ev_size _ _)) (ev_one _ _) ?_
            have hB219 := blk_sets (ev m (kmul m (kmul m (ksub m (kmul m (a) (kmul m (z) (z))) (x)) (ksub m (kmul m (a) (kmul m (z) (z))) (x))) (ksub m (kmul m (a) (kmul m (z) (z))) (x)))).toList 0 hB21
            rw [putAll_eq (zc_size.trans (ev_size _ _).symm)] at hB219
            have hB1 := But.sets (ev m (kmul m (kmul m (ksub m (kmul m (a) (kmul m (z) (z))) (x)) (ksub m (kmul m (a) (kmul m (z) (z))) (x))) (ksub m (kmul m (a) (kmul m (z) (z))) (x)))).toList 0 (But.refl B21 x23)
            have hSB := hS.trans (hB1.below.mono lB21)
            have hB229 := (hB1.same _ (by omega)).trans hB22
            clear hB22
            have hB22 := hB229
            clear hB229
            clear hB1 hB21
            have hB21 := hB219
            clear hB219
            generalize World.setCells x23 B21 0 (ev m (kmul m (kmul m (ksub m (kmul m (a) (kmul m (z) (z))) (x)) (ksub m (kmul m (a) (kmul m (z) (z))) (x))) (ksub m (kmul m (a) (kmul m (z) (z))) (x)))).toList = x24 at *
            refine hK.out _ _ hSB (fun hS => ?_)
            clear hK K hSB
            refine wpAnyH_ready (rs := [13]) (by kernel_rfl) (by simp) (AllReadyH.cons rfl (fun K hK => ?_) AllReadyH.nil)
            refine ite_wp (by kernel_rfl) ?_
            refine wp_store_midN 32 (.tmp 12) (.tmp 90) rfl rfl (B22) 0 (ev m (kmul m (x) (kmul m (ksub m (kmul m (a) (kmul m (z) (z))) (x)) (ksub m (kmul m (a) (kmul m (z) (z))) (x))))) rfl rfl (there_of hB22 (zc_size.trans (ev_size _ _).symm)) (infoE (ev_size _ _)) (ev_one _ _) ?_
            have hB229 := blk_sets (ev m (kmul m (x) (kmul m (ksub m (kmul m (a) (kmul m (z) (z))) (x)) (ksub m (kmul m (a) (kmul m (z) (z))) (x))))).toList 0 hB22
            rw [putAll_eq (zc_size.trans (ev_size _ _).symm)] at hB229
            have hB1 := But.sets (ev m (kmul m (x) (kmul m (ksub m (kmul m (a) (kmul m (z) (z))) (x)) (ksub m (kmul m (a) (kmul m (z) (z))) (x))))).toList 0 (But.refl B22 x24)
            have hSB := hS.trans (hB1.below.mono lB22)
            have hB219 := (hB1.same _ (by omega)).trans hB21
            clear hB21
            have hB21 := hB219
            clear hB219
            clear hB1 hB22
            have hB22 := hB229
            clear hB229
            generalize World.setCells x24 B22 0 (ev m (kmul m (x) (kmul m (ksub m (kmul m (a) (kmul m (z) (z))) (x)) (ksub m (kmul m (a) (kmul m (z) (z))) (x))))).toList = x25 at *
            refine hK.out _ _ hSB (fun hS => ?_)
            clear hK K hSB
            refine wpAnyH_done (by kernel_rfl) ?_ _
            (try simp only [put_none])
            refine HK1.out _ _ ?_
            clear HK1 K1
            have HG9 := hideP (HG.out.below hS)
            have H09 := hideP ((hS.block _ (lt_of_block H0.out)).trans H0.out)
            have H19 := hideP ((hS.block _ (lt_of_block H1.out)).trans H1.out)
            have Hr9 := hideP ((hS.block _ (lt_of_block Hr.out)).trans Hr.out)
            have HB79 := hideP ((hS.block _ (lt_of_block HB7.out)).trans HB7.out)
            have HB149 := hideP ((hS.block _ (lt_of_block HB14.out)).trans HB14.out)
            have HB159 := hideP ((hS.block _ (lt_of_block HB15.out)).trans HB15.out)
            have HBW9 := hideP (HBW.out.trans (hS.mono (Nat.le_of_lt (lt_of_block H0.out))))
            have oB21 : B15 < B21 := by have := lt_of_block HB15.out; omega
            have oB22 : B15 < B22 := by have := lt_of_block HB15.out; omega
            clear hS HG HBW H0 H1 Hr HB7 HB14 HB15 lB21 lB22
            have HG := HG9
            clear HG9
            have HBW := HBW9
            clear HBW9
            have H0 := H09
            clear H09
            have H1 := H19
            clear H19
            have Hr := Hr9
            clear Hr9
            have HB7 := HB79
            clear HB79
            have HB14 := HB149
            clear HB149
            have HB15 := HB159
            clear HB159
            have HB21 := hideP hB21
            clear hB21
            have HB22 := hideP hB22
            clear hB22
            as_aux_lemma =>
              refine wp_seqH (fun K1 HK1 => ?_)
              refine wp_region_heldS (S := fun V => Below x25.heap.size x25 V) (by kernel_rfl) (Below.refl _ _).drew (fun hS => ?_)
              refine wpAnyH_takeL (i := 0) (v := ?_) rfl (by kernel_rfl) (by kernel_rfl) (by kernel_rfl) (fun _ _ _ h => h) (Or.inl ⟨by kernel_rfl, ?_⟩) hS ?_
              rotate_left
              · intro V hV
                go_simp
                (try with_reducible rfl)
              simp only [put_list, List.set_cons_succ, List.set_cons_zero]
              refine wpAnyH_takeL (i := 1) (v := ?_) rfl (by kernel_rfl) (by kernel_rfl) (by kernel_rfl) (fun _ _ _ h => h) (Or.inl ⟨by kernel_rfl, ?_⟩) hS ?_
              rotate_left
              · intro V hV
                go_simp
                (try with_reducible rfl)
              simp only [put_list, List.set_cons_succ, List.set_cons_zero]
              refine wpAnyH_takeL (i := 2) (v := ?_) rfl (by kernel_rfl) (by kernel_rfl) (by kernel_rfl) (fun _ _ _ h => h) (Or.inl ⟨by kernel_rfl, ?_⟩) hS ?_
              rotate_left
              · intro V hV
                go_simp
                (try with_reducible rfl)
              simp only [put_list, List.set_cons_succ, List.set_cons_zero]
              refine wpAnyH_takeL (i := 3) (v := .agg (ev m (ksub m (kmul m (c) (kmul m (kmul m (z) (z)) (z))) (y)))) rfl (by kernel_rfl) (by kernel_rfl) (by kernel_rfl) (fun _ _ _ h => h) (yields_loadC (by kernel_rfl) 32 _ rfl (B15) (0) rfl (ev m (ksub m (kmul m (c) (kmul m (kmul m (z) (z)) (z))) (y))) _ (fun V hV => rangeOf ((hV.block _ (lt_of_block HB15.out)).trans HB15.out)) underE rfl (infoE (ev_size _ _))) hS ?_
              simp only [put_list, List.set_cons_succ, List.set_cons_zero]
              refine wpAnyH_takeL (i := 4) (v := .agg (ev m (ksub m (kmul m (c) (kmul m (kmul m (z) (z)) (z))) (y)))) rfl (by kernel_rfl) (by kernel_rfl) (by kernel_rfl) (fun _ _ _ h => h) (yields_loadC (by kernel_rfl) 32 _ rfl (B15) (0) rfl (ev m (ksub m (kmul m (c) (kmul m (kmul m (z) (z)) (z))) (y))) _ (fun V hV => rangeOf ((hV.block _ (lt_of_block HB15.out)).trans HB15.out)) underE rfl (infoE (ev_size _ _))) hS ?_
              simp only [put_list, List.set_cons_succ, List.set_cons_zero]
              refine wpAnyH_takeL (i := 6) (v := .agg (ev m (kmul m (kmul m (ksub m (kmul m (a) (kmul m (z) (z))) (x)) (ksub m (kmul m (a) (kmul m (z) (z))) (x))) (ksub m (kmul m (a) (kmul m (z) (z))) (x))))) rfl (by kernel_rfl) (by kernel_rfl) (by kernel_rfl) (fun _ _ _ h => h) (yields_loadC (by kernel_rfl) 32 _ rfl (B21) (0) rfl (ev m (kmul m (kmul m (ksub m (kmul m (a) (kmul m (z) (z))) (x)) (ksub m (kmul m (a) (kmul m (z) (z))) (x))) (ksub m (kmul m (a) (kmul m (z) (z))) (x)))) _ (fun V hV => rangeOf ((hV.block _ (lt_of_block HB21.out)).trans HB21.out)) underE rfl (infoE (ev_size _ _))) hS ?_
              simp only [put_list, List.set_cons_succ, List.set_cons_zero]
              refine wpAnyH_takeL (i := 7) (v := ?_) rfl (by kernel_rfl) (by kernel_rfl) (by kernel_rfl) (fun _ _ _ h => h) (Or.inl ⟨by kernel_rfl, ?_⟩) hS ?_
              rotate_left
              · intro V hV
                go_simp
                (try with_reducible rfl)
              simp only [put_list, List.set_cons_succ, List.set_cons_zero]
              refine wpAnyH_takeL (i := 8) (v := .func (.method "Sub") #[ifv p] #[]) rfl (by kernel_rfl) (by kernel_rfl) (by kernel_rfl) (fun _ _ _ h => h) (yields_nilm (by kernel_rfl) (.tmp 98) rfl rfl (na_Sub p)) hS ?_
              simp only [put_list, List.set_cons_succ, List.set_cons_zero]
              refine wpAnyH_takeL (i := 9) (v := ?_) rfl (by kernel_rfl) (by kernel_rfl) (by kernel_rfl) (fun _ _ _ h => h) (Or.inl ⟨by kernel_rfl, ?_⟩) hS ?_
              rotate_left
              · intro V hV
                go_simp
                (try with_reducible rfl)
              simp only [put_list, List.set_cons_succ, List.set_cons_zero]
              refine wpAnyH_takeL (i := 11) (v := ?_) rfl (by kernel_rfl) (by kernel_rfl) (by kernel_rfl) (fun _ _ _ h => h) (Or.inl ⟨by kernel_rfl, ?_⟩) hS ?_
              rotate_left
              · intro V hV
                go_simp
                (try with_reducible rfl)
              simp only [put_list, List.set_cons_succ, List.set_cons_zero]
              refine wpAnyH_takeL (i := 12) (v := .agg (ev m (kmul m (x) (kmul m (ksub m (kmul m (a) (kmul m (z) (z))) (x)) (ksub m (kmul m (a) (kmul m (z) (z))) (x)))))) rfl (by kernel_rfl) (by kernel_rfl) (by kernel_rfl) (fun _ _ _ h => h) (yields_loadC (by kernel_rfl) 32 _ rfl (B22) (0) rfl (ev m (kmul m (x) (kmul m (ksub m (kmul m (a) (kmul m (z) (z))) (x)) (ksub m (kmul m (a) (kmul m (z) (z))) (x))))) _ (fun V hV => rangeOf ((hV.block _ (lt_of_block HB22.out)).trans HB22.out)) underE rfl (infoE (ev_size _ _))) hS ?_
              simp only [put_list, List.set_cons_succ, List.set_cons_zero]
              refine wpAnyH_takeL (i := 14) (v := ?_) rfl (by kernel_rfl) (by kernel_rfl) (by kernel_rfl) (fun _ _ _ h => h) (Or.inl ⟨by kernel_rfl, ?_⟩) hS ?_
              rotate_left
              · intro V hV
                go_simp
                (try with_reducible rfl)
              simp only [put_list, List.set_cons_succ, List.set_cons_zero]
              refine wpAnyH_takeL (i := 15) (v := .func (.method "Sub") #[ifv p] #[]) rfl (by kernel_rfl) (by kernel_rfl) (by kernel_rfl) (fun _ _ _ h => h) (yields_nilm (by kernel_rfl) (.tmp 105) rfl rfl (na_Sub p)) hS ?_
              simp only [put_list, List.set_cons_succ, List.set_cons_zero]
              refine wpAnyH_takeL (i := 16) (v := ?_) rfl (by kernel_rfl) (by kernel_rfl) (by kernel_rfl) (fun _ _ _ h => h) (Or.inl ⟨by kernel_rfl, ?_⟩) hS ?_
              rotate_left
              · intro V hV
                go_simp
                (try with_reducible rfl)
              simp only [put_list, List.set_cons_succ, List.set_cons_zero]

              refine regionM (r := 1) (fun b => .pointer (some ⟨b, 0, none⟩)) 4 (fun k => match k with | 0 => 5 | 1 => 10 | 2 => 13 | _ => 17) (fun k => match k with | 0 => 96 | 1 => 101 | 2 => 104 | _ => 108) (fun k => match k with | 0 => .agg (ev m (kmul m (ksub m (kmul m (c) (kmul m (kmul m (z) (z)) (z))) (y)) (ksub m (kmul m (c) (kmul m (kmul m (z) (z)) (z))) (y)))) | 1 => .agg (ev m (ksub m (kmul m (ksub m (kmul m (c) (kmul m (kmul m (z) (z)) (z))) (y)) (ksub m (kmul m (c) (kmul m (kmul m (z) (z)) (z))) (y))) (kmul m (kmul m (ksub m (kmul m (a) (kmul m (z) (z))) (x)) (ksub m (kmul m (a) (kmul m (z) (z))) (x))) (ksub m (kmul m (a) (kmul m (z) (z))) (x))))) | 2 => .agg (ev m (kadd m (kmul m (x) (kmul m (ksub m (kmul m (a) (kmul m (z) (z))) (x)) (ksub m (kmul m (a) (kmul m (z) (z))) (x)))) (kmul m (x) (kmul m (ksub m (kmul m (a) (kmul m (z) (z))) (x)) (ksub m (kmul m (a) (kmul m (z) (z))) (x)))))) | _ => .agg (ev m (ksub m (ksub m (kmul m (ksub m (kmul m (c) (kmul m (kmul m (z) (z)) (z))) (y)) (ksub m (kmul m (c) (kmul m (kmul m (z) (z)) (z))) (y))) (kmul m (kmul m (ksub m (kmul m (a) (kmul m (z) (z))) (x)) (ksub m (kmul m (a) (kmul m (z) (z))) (x))) (ksub m (kmul m (a) (kmul m (z) (z))) (x)))) (kadd m (kmul m (x) (kmul m (ksub m (kmul m (a) (kmul m (z) (z))) (x)) (ksub m (kmul m (a) (kmul m (z) (z))) (x)))) (kmul m (x) (kmul m (ksub m (kmul m (a) (kmul m (z) (z))) (x)) (ksub m (kmul m (a) (kmul m (z) (z))) (x)))))))) (fun i p => #[true, true, true, true, true, decide (0 < i), true, true, true, true, decide (1 < i), true, true, decide (2 < i), true, true, true, decide (3 < i), p, false] : Nat → Bool → Array Bool) #[.int .u64 0, .int .u64 0, .int .u64 0, .int .u64 0] 32 18 13 (by kernel_rfl) (by decide) (by kernel_rfl) hS ?_ ?_ ?_
              · intro i hi T w2 K hW2 hT hK
                match i, hi with
                | 0, _ =>
                  have t93 : T[93]? = some (ifv p) := hT 93 (by decide)
                  have t94 : T[94]? = some (.agg (ev m (ksub m (kmul m (c) (kmul m (kmul m (z) (z)) (z))) (y)))) := hT 94 (by decide)
                  have t95 : T[95]? = some (.agg (ev m (ksub m (kmul m (c) (kmul m (kmul m (z) (z)) (z))) (y)))) := hT 95 (by decide)
                  refine wpOp_stepT (i := 5) rfl (fun K' hK' => ?_)
                  refine ite_wp (by kernel_rfl) ?_
                  refine wp_invoke2D (.tmp 93) (.tmp 94) (.tmp 95) "Mul" _ 96 rfl rfl (eval_get t93) (eval_get t94) (eval_get t95) (cm_Mul p _ _ _) (c_Mul ((HG.out.below hW2).ok) (ksub m (kmul m (c) (kmul m (kmul m (z) (z)) (z))) (y)) (ksub m (kmul m (c) (kmul m (kmul m (z) (z)) (z))) (y))) ?_
                  intro w3 hb
                  exact hK' _ _ (hK w3 hb)
                | 1, _ =>
                  have t100 : T[100]? = some (ifv p) := hT 100 (by decide)
                  have t96 : T[96]? = some (.agg (ev m (kmul m (ksub m (kmul m (c) (kmul m (kmul m (z) (z)) (z))) (y)) (ksub m (kmul m (c) (kmul m (kmul m (z) (z)) (z))) (y))))) := hT 96 (by decide)
                  have t97 : T[97]? = some (.agg (ev m (kmul m (kmul m (ksub m (kmul m (a) (kmul m (z) (z))) (x)) (ksub m (kmul m (a) (kmul m (z) (z))) (x))) (ksub m (kmul m (a) (kmul m (z) (z))) (x))))) := hT 97 (by decide)
                  refine wpOp_stepT (i := 10) rfl (fun K' hK' => ?_)
                  refine ite_wp (by kernel_rfl) ?_
                  refine wp_invoke2D (.tmp 100) (.tmp 96) (.tmp 97) "Sub" _ 101 rfl rfl (eval_get t100) (eval_get t96) (eval_get t97) (cm_Sub p _ _ _) (c_Sub ((HG.out.below hW2).ok) (kmul m (ksub m (kmul m (c) (kmul m (kmul m (z) (z)) (z))) (y)) (ksub m (kmul m (c) (kmul m (kmul m (z) (z)) (z))) (y))) (kmul m (kmul m (ksub m (kmul m (a) (kmul m (z) (z))) (x)) (ksub m (kmul m (a) (kmul m (z) (z))) (x))) (ksub m (kmul m (a) (kmul m (z) (z))) (x)))) ?_
                  intro w3 hb
                  exact hK' _ _ (hK w3 hb)
                | 2, _ =>
                  have t102 : T[102]? = some (.pointer (some ⟨g, 0, none⟩)) := hT 102 (by decide)
                  have t103 : T[103]? = some (.agg (ev m (kmul m (x) (kmul m (ksub m (kmul m (a) (kmul m (z) (z))) (x)) (ksub m (kmul m (a) (kmul m (z) (z))) (x)))))) := hT 103 (by decide)
                  refine wpOp_stepT (i := 13) rfl (fun K' hK' => ?_)
                  refine ite_wp (by kernel_rfl) ?_
                  refine wp_call2D (.tmp 102) (.tmp 103) _ 104 rfl rfl (eval_get t102) (eval_get t103) (enters_of Tryz.func238 (by kernel_rfl) rfl) (twice_any (HG.out.below hW2) (kmul m (x) (kmul m (ksub m (kmul m (a) (kmul m (z) (z))) (x)) (ksub m (kmul m (a) (kmul m (z) (z))) (x))))) ?_
                  intro w3 hb
                  exact hK' _ _ (hK w3 hb)
                | 3, _ =>
                  have t107 : T[107]? = some (ifv p) := hT 107 (by decide)
                  have t101 : T[101]? = some (.agg (ev m (ksub m (kmul m (ksub m (kmul m (c) (kmul m (kmul m (z) (z)) (z))) (y)) (ksub m (kmul m (c) (kmul m (kmul m (z) (z)) (z))) (y))) (kmul m (kmul m (ksub m (kmul m (a) (kmul m (z) (z))) (x)) (ksub m (kmul m (a) (kmul m (z) (z))) (x))) (ksub m (kmul m (a) (kmul m (z) (z))) (x)))))) := hT 101 (by decide)
                  have t104 : T[104]? = some (.agg (ev m (kadd m (kmul m (x) (kmul m (ksub m (kmul m (a) (kmul m (z) (z))) (x)) (ksub m (kmul m (a) (kmul m (z) (z))) (x)))) (kmul m (x) (kmul m (ksub m (kmul m (a) (kmul m (z) (z))) (x)) (ksub m (kmul m (a) (kmul m (z) (z))) (x))))))) := hT 104 (by decide)
                  refine wpOp_stepT (i := 17) rfl (fun K' hK' => ?_)
                  refine ite_wp (by kernel_rfl) ?_
                  refine wp_invoke2D (.tmp 107) (.tmp 101) (.tmp 104) "Sub" _ 108 rfl rfl (eval_get t107) (eval_get t101) (eval_get t104) (cm_Sub p _ _ _) (c_Sub ((HG.out.below hW2).ok) (ksub m (kmul m (ksub m (kmul m (c) (kmul m (kmul m (z) (z)) (z))) (y)) (ksub m (kmul m (c) (kmul m (kmul m (z) (z)) (z))) (y))) (kmul m (kmul m (ksub m (kmul m (a) (kmul m (z) (z))) (x)) (ksub m (kmul m (a) (kmul m (z) (z))) (x))) (ksub m (kmul m (a) (kmul m (z) (z))) (x)))) (kadd m (kmul m (x) (kmul m (ksub m (kmul m (a) (kmul m (z) (z))) (x)) (ksub m (kmul m (a) (kmul m (z) (z))) (x)))) (kmul m (x) (kmul m (ksub m (kmul m (a) (kmul m (z) (z))) (x)) (ksub m (kmul m (a) (kmul m (z) (z))) (x)))))) ?_
                  intro w3 hb
                  exact hK' _ _ (hK w3 hb)
                | k' + 4, h => exact absurd h (by omega)
              · intro T w2 K hT hK
                refine wpOp_stepT rfl (fun K' hK' => ?_)
                have HK' := hideP hK'
                have HK9 := hideP hK
                clear hK hK'
                go_simp
                exact HK'.out _ _ HK9.out
              intro x27 B26 hS lB26 hB26
              simp only [TC, List.set_cons_succ, List.set_cons_zero]
              refine wpAnyH_ready (rs := [19]) (by kernel_rfl) (by simp) (AllReadyH.cons rfl (fun K hK => ?_) AllReadyH.nil)
              refine ite_wp (by kernel_rfl) ?_
              refine wp_store_midN 32 (.tmp 13) (.tmp 108) rfl rfl (B26) 0 (ev m (ksub m (ksub m (kmul m (ksub m (kmul m (c) (kmul m (kmul m (z) (z)) (z))) (y)) (ksub m (kmul m (c) (kmul m (kmul m (z) (z)) (z))) (y))) (kmul m (kmul m (ksub m (kmul m (a) (kmul m (z) (z))) (x)) (ksub m (kmul m (a) (kmul m (z) (z))) (x))) (ksub m (kmul m (a) (kmul m (z) (z))) (x)))) (kadd m (kmul m (x) (kmul m (ksub m (kmul m (a) (kmul m (z) (z))) (x)) (ksub m (kmul m (a) (kmul m (z) (z))) (x)))) (kmul m (x) (kmul m (ksub m (kmul m (a) (kmul m (z) (z))) (x)) (ksub m (kmul m (a) (kmul m (z) (z))) (x))))))) rfl rfl (there_of hB26 (zc_size.trans (ev_size _ _).symm)) (infoE (ev_size _ _)) (ev_one _ _) ?_
              have hB269 := blk_sets (ev m (ksub m (ksub m (kmul m (ksub m (kmul m (c) (kmul m (kmul m (z) (z)) (z))) (y)) (ksub m (kmul m (c) (kmul m (kmul m (z) (z)) (z))) (y))) (kmul m (kmul m (ksub m (kmul m (a) (kmul m (z) (z))) (x)) (ksub m (kmul m (a) (kmul m (z) (z))) (x))) (ksub m (kmul m (a) (kmul m (z) (z))) (x)))) (kadd m (kmul m (x) (kmul m (ksub m (kmul m (a) (kmul m (z) (z))) (x)) (ksub m (kmul m (a) (kmul m (z) (z))) (x)))) (kmul m (x) (kmul m (ksub m (kmul m (a) (kmul m (z) (z))) (x)) (ksub m (kmul m (a) (kmul m (z) (z))) (x))))))).toList 0 hB26
              rw [putAll_eq (zc_size.trans (ev_size _ _).symm)] at hB269
              have hB1 := But.sets (ev m (ksub m (ksub m (kmul m (ksub m (kmul m (c) (kmul m (kmul m (z) (z)) (z))) (y)) (ksub m (kmul m (c) (kmul m (kmul m (z) (z)) (z))) (y))) (kmul m (kmul m (ksub m (kmul m (a) (kmul m (z) (z))) (x)) (ksub m (kmul m (a) (kmul m (z) (z))) (x))) (ksub m (kmul m (a) (kmul m (z) (z))) (x)))) (kadd m (kmul m (x) (kmul m (ksub m (kmul m (a) (kmul m (z) (z))) (x)) (ksub m (kmul m (a) (kmul m (z) (z))) (x)))) (kmul m (x) (kmul m (ksub m (kmul m (a) (kmul m (z) (z))) (x)) (ksub m (kmul m (a) (kmul m (z) (z))) (x))))))).toList 0 (But.refl B26 x27)
              have hSB := hS.trans (hB1.below.mono lB26)
              clear hB1 hB26
              have hB26 := hB269
              clear hB269
              generalize World.setCells x27 B26 0 (ev m (ksub m (ksub m (kmul m (ksub m (kmul m (c) (kmul m (kmul m (z) (z)) (z))) (y)) (ksub m (kmul m (c) (kmul m (kmul m (z) (z)) (z))) (y))) (kmul m (kmul m (ksub m (kmul m (a) (kmul m (z) (z))) (x)) (ksub m (kmul m (a) (kmul m (z) (z))) (x))) (ksub m (kmul m (a) (kmul m (z) (z))) (x)))) (kadd m (kmul m (x) (kmul m (ksub m (kmul m (a) (kmul m (z) (z))) (x)) (ksub m (kmul m (a) (kmul m (z) (z))) (x)))) (kmul m (x) (kmul m (ksub m (kmul m (a) (kmul m (z) (z))) (x)) (ksub m (kmul m (a) (kmul m (z) (z))) (x))))))).toList = x28 at *
              refine hK.out _ _ hSB (fun hS => ?_)
              clear hK K hSB
              refine wpAnyH_done (by kernel_rfl) ?_ _
              (try simp only [put_none])
              refine HK1.out _ _ ?_
              clear HK1 K1
              have HG9 := hideP (HG.out.below hS)
              have H09 := hideP ((hS.block _ (lt_of_block H0.out)).trans H0.out)
              have H19 := hideP ((hS.block _ (lt_of_block H1.out)).trans H1.out)
              have Hr9 := hideP ((hS.block _ (lt_of_block Hr.out)).trans Hr.out)
              have HB79 := hideP ((hS.block _ (lt_of_block HB7.out)).trans HB7.out)
              have HB149 := hideP ((hS.block _ (lt_of_block HB14.out)).trans HB14.out)
              have HB159 := hideP ((hS.block _ (lt_of_block HB15.out)).trans HB15.out)
              have HB219 := hideP ((hS.block _ (lt_of_block HB21.out)).trans HB21.out)
              have HB229 := hideP ((hS.block _ (lt_of_block HB22.out)).trans HB22.out)
              have HBW9 := hideP (HBW.out.trans (hS.mono (Nat.le_of_lt (lt_of_block H0.out))))
              have oB26 : B22 < B26 := by have := lt_of_block HB22.out; omega
              clear hS HG HBW H0 H1 Hr HB7 HB14 HB15 HB21 HB22 lB26
              have HG := HG9
              clear HG9
              have HBW := HBW9
              clear HBW9
              have H0 := H09
              clear H09
              have H1 := H19
              clear H19
              have Hr := Hr9
              clear Hr9
              have HB7 := HB79
              clear HB79
              have HB14 := HB149
              clear HB149
              have HB15 := HB159
              clear HB159
              have HB21 := HB219
              clear HB219
              have HB22 := HB229
              clear HB229
              have HB26 := hideP hB26
              clear hB26
              as_aux_lemma =>
                refine wp_seqH (fun K1 HK1 => ?_)
                refine wp_region_heldS (S := fun V => Below x28.heap.size x28 V) (by kernel_rfl) (Below.refl _ _).drew (fun hS => ?_)
                refine wpAnyH_takeL (i := 0) (v := ?_) rfl (by kernel_rfl) (by kernel_rfl) (by kernel_rfl) (fun _ _ _ h => h) (Or.inl ⟨by kernel_rfl, ?_⟩) hS ?_
                rotate_left
                · intro V hV
                  go_simp
                  (try with_reducible rfl)
                simp only [put_list, List.set_cons_succ, List.set_cons_zero]
                refine wpAnyH_takeL (i := 1) (v := ?_) rfl (by kernel_rfl) (by kernel_rfl) (by kernel_rfl) (fun _ _ _ h => h) (Or.inl ⟨by kernel_rfl, ?_⟩) hS ?_
                rotate_left
                · intro V hV
                  go_simp
                  (try with_reducible rfl)
                simp only [put_list, List.set_cons_succ, List.set_cons_zero]
                refine wpAnyH_takeL (i := 2) (v := .agg (ev m (ksub m (kmul m (c) (kmul m (kmul m (z) (z)) (z))) (y)))) rfl (by kernel_rfl) (by kernel_rfl) (by kernel_rfl) (fun _ _ _ h => h) (yields_loadC (by kernel_rfl) 32 _ rfl (B15) (0) rfl (ev m (ksub m (kmul m (c) (kmul m (kmul m (z) (z)) (z))) (y))) _ (fun V hV => rangeOf ((hV.block _ (lt_of_block HB15.out)).trans HB15.out)) underE rfl (infoE (ev_size _ _))) hS ?_
                simp only [put_list, List.set_cons_succ, List.set_cons_zero]
                refine wpAnyH_takeL (i := 3) (v := ?_) rfl (by kernel_rfl) (by kernel_rfl) (by kernel_rfl) (fun _ _ _ h => h) (Or.inl ⟨by kernel_rfl, ?_⟩) hS ?_
                rotate_left
                · intro V hV
                  go_simp
                  (try with_reducible rfl)
                simp only [put_list, List.set_cons_succ, List.set_cons_zero]
                refine wpAnyH_takeL (i := 4) (v := .agg (ev m (kmul m (x) (kmul m (ksub m (kmul m (a) (kmul m (z) (z))) (x)) (ksub m (kmul m (a) (kmul m (z) (z))) (x)))))) rfl (by kernel_rfl) (by kernel_rfl) (by kernel_rfl) (fun _ _ _ h => h) (yields_loadC (by kernel_rfl) 32 _ rfl (B22) (0) rfl (ev m (kmul m (x) (kmul m (ksub m (kmul m (a) (kmul m (z) (z))) (x)) (ksub m (kmul m (a) (kmul m (z) (z))) (x))))) _ (fun V hV => rangeOf ((hV.block _ (lt_of_block HB22.out)).trans HB22.out)) underE rfl (infoE (ev_size _ _))) hS ?_
                simp only [put_list, List.set_cons_succ, List.set_cons_zero]
                refine wpAnyH_takeL (i := 5) (v := .agg (ev m (ksub m (ksub m (kmul m (ksub m (kmul m (c) (kmul m (kmul m (z) (z)) (z))) (y)) (ksub m (kmul m (c) (kmul m (kmul m (z) (z)) (z))) (y))) (kmul m (kmul m (ksub m (kmul m (a) (kmul m (z) (z))) (x)) (ksub m (kmul m (a) (kmul m (z) (z))) (x))) (ksub m (kmul m (a) (kmul m (z) (z))) (x)))) (kadd m (kmul m (x) (kmul m (ksub m (kmul m (a) (kmul m (z) (z))) (x)) (ksub m (kmul m (a) (kmul m (z) (z))) (x)))) (kmul m (x) (kmul m (ksub m (kmul m (a) (kmul m (z) (z))) (x)) (ksub m (kmul m (a) (kmul m (z) (z))) (x)))))))) rfl (by kernel_rfl) (by kernel_rfl) (by kernel_rfl) (fun _ _ _ h => h) (yields_loadC (by kernel_rfl) 32 _ rfl (B26) (0) rfl (ev m (ksub m (ksub m (kmul m (ksub m (kmul m (c) (kmul m (kmul m (z) (z)) (z))) (y)) (ksub m (kmul m (c) (kmul m (kmul m (z) (z)) (z))) (y))) (kmul m (kmul m (ksub m (kmul m (a) (kmul m (z) (z))) (x)) (ksub m (kmul m (a) (kmul m (z) (z))) (x))) (ksub m (kmul m (a) (kmul m (z) (z))) (x)))) (kadd m (kmul m (x) (kmul m (ksub m (kmul m (a) (kmul m (z) (z))) (x)) (ksub m (kmul m (a) (kmul m (z) (z))) (x)))) (kmul m (x) (kmul m (ksub m (kmul m (a) (kmul m (z) (z))) (x)) (ksub m (kmul m (a) (kmul m (z) (z))) (x))))))) _ (fun V hV => rangeOf ((hV.block _ (lt_of_block HB26.out)).trans HB26.out)) underE rfl (infoE (ev_size _ _))) hS ?_
                simp only [put_list, List.set_cons_succ, List.set_cons_zero]
                refine wpAnyH_takeL (i := 7) (v := ?_) rfl (by kernel_rfl) (by kernel_rfl) (by kernel_rfl) (fun _ _ _ h => h) (Or.inl ⟨by kernel_rfl, ?_⟩) hS ?_
                rotate_left
                · intro V hV
                  go_simp
                  (try with_reducible rfl)
                simp only [put_list, List.set_cons_succ, List.set_cons_zero]
                refine wpAnyH_takeL (i := 8) (v := .func (.method "Mul") #[ifv p] #[]) rfl (by kernel_rfl) (by kernel_rfl) (by kernel_rfl) (fun _ _ _ h => h) (yields_nilm (by kernel_rfl) (.tmp 116) rfl rfl (na_Mul p)) hS ?_
                simp only [put_list, List.set_cons_succ, List.set_cons_zero]
                refine wpAnyH_takeL (i := 9) (v := ?_) rfl (by kernel_rfl) (by kernel_rfl) (by kernel_rfl) (fun _ _ _ h => h) (Or.inl ⟨by kernel_rfl, ?_⟩) hS ?_
                rotate_left
                · intro V hV
                  go_simp
                  (try with_reducible rfl)
                simp only [put_list, List.set_cons_succ, List.set_cons_zero]
                refine wpAnyH_takeL (i := 11) (v := ?_) rfl (by kernel_rfl) (by kernel_rfl) (by kernel_rfl) (fun _ _ _ h => h) (Or.inl ⟨by kernel_rfl, ?_⟩) hS ?_
                rotate_left
                · intro V hV
                  go_simp
                  (try with_reducible rfl)
                simp only [put_list, List.set_cons_succ, List.set_cons_zero]
                refine wpAnyH_takeL (i := 12) (v := ?_) rfl (by kernel_rfl) (by kernel_rfl) (by kernel_rfl) (fun _ _ _ h => h) (Or.inl ⟨by kernel_rfl, ?_⟩) hS ?_
                rotate_left
                · intro V hV
                  go_simp
                  (try with_reducible rfl)
                simp only [put_list, List.set_cons_succ, List.set_cons_zero]
                refine wpAnyH_takeL (i := 13) (v := ?_) rfl (by kernel_rfl) (by kernel_rfl) (by kernel_rfl) (fun _ _ _ h => h) (Or.inl ⟨by kernel_rfl, ?_⟩) hS ?_
                rotate_left
                · intro V hV
                  go_simp
                  (try with_reducible rfl)
                simp only [put_list, List.set_cons_succ, List.set_cons_zero]
                refine wpAnyH_takeL (i := 14) (v := .agg (ev m (y))) rfl (by kernel_rfl) (by kernel_rfl) (by kernel_rfl) (fun _ _ _ h => h) (yields_loadC (by kernel_rfl) 32 _ rfl (N) (4) rfl (ev m (y)) _ (fun V hV => sc_y ((hV.block _ (lt_of_block H0.out)).trans H0.out)) underE rfl (infoE (ev_size _ _))) hS ?_
                simp only [put_list, List.set_cons_succ, List.set_cons_zero]
                refine wpAnyH_takeL (i := 15) (v := .agg (ev m (kmul m (kmul m (ksub m (kmul m (a) (kmul m (z) (z))) (x)) (ksub m (kmul m (a) (kmul m (z) (z))) (x))) (ksub m (kmul m (a) (kmul m (z) (z))) (x))))) rfl (by kernel_rfl) (by kernel_rfl) (by kernel_rfl) (fun _ _ _ h => h) (yields_loadC (by kernel_rfl) 32 _ rfl (B21) (0) rfl (ev m (kmul m (kmul m (ksub m (kmul m (a) (kmul m (z) (z))) (x)) (ksub m (kmul m (a) (kmul m (z) (z))) (x))) (ksub m (kmul m (a) (kmul m (z) (z))) (x)))) _ (fun V hV => rangeOf ((hV.block _ (lt_of_block HB21.out)).trans HB21.out)) underE rfl (infoE (ev_size _ _))) hS ?_
                simp only [put_list, List.set_cons_succ, List.set_cons_zero]
                refine wpAnyH_takeL (i := 17) (v := ?_) rfl (by kernel_rfl) (by kernel_rfl) (by kernel_rfl) (fun _ _ _ h => h) (Or.inl ⟨by kernel_rfl, ?_⟩) hS ?_
                rotate_left
                · intro V hV
                  go_simp
                  (try with_reducible rfl)
                simp only [put_list, List.set_cons_succ, List.set_cons_zero]
                refine wpAnyH_takeL (i := 18) (v := .func (.method "Sub") #[ifv p] #[]) rfl (by kernel_rfl) (by kernel_rfl) (by kernel_rfl) (fun _ _ _ h => h) (yields_nilm (by kernel_rfl) (.tmp 126) rfl rfl (na_Sub p)) hS ?_
                simp only [put_list, List.set_cons_succ, List.set_cons_zero]
                refine wpAnyH_takeL (i := 19) (v := ?_) rfl (by kernel_rfl) (by kernel_rfl) (by kernel_rfl) (fun _ _ _ h => h) (Or.inl ⟨by kernel_rfl, ?_⟩) hS ?_
                rotate_left
                · intro V hV
                  go_simp
                  (try with_reducible rfl)
                simp only [put_list, List.set_cons_succ, List.set_cons_zero]

                refine regionM (r := 1) (fun b => .pointer (some ⟨b, 0, none⟩)) 4 (fun k => match k with | 0 => 6 | 1 => 10 | 2 => 16 | _ => 20) (fun k => match k with | 0 => 115 | 1 => 119 | 2 => 125 | _ => 129) (fun k => match k with | 0 => .agg (ev m (ksub m (kmul m (x) (kmul m (ksub m (kmul m (a) (kmul m (z) (z))) (x)) (ksub m (kmul m (a) (kmul m (z) (z))) (x)))) (ksub m (ksub m (kmul m (ksub m (kmul m (c) (kmul m (kmul m (z) (z)) (z))) (y)) (ksub m (kmul m (c) (kmul m (kmul m (z) (z)) (z))) (y))) (kmul m (kmul m (ksub m (kmul m (a) (kmul m (z) (z))) (x)) (ksub m (kmul m (a) (kmul m (z) (z))) (x))) (ksub m (kmul m (a) (kmul m (z) (z))) (x)))) (kadd m (kmul m (x) (kmul m (ksub m (kmul m (a) (kmul m (z) (z))) (x)) (ksub m (kmul m (a) (kmul m (z) (z))) (x)))) (kmul m (x) (kmul m (ksub m (kmul m (a) (kmul m (z) (z))) (x)) (ksub m (kmul m (a) (kmul m (z) (z))) (x)))))))) | 1 => .agg (ev m (kmul m (ksub m (kmul m (c) (kmul m (kmul m (z) (z)) (z))) (y)) (ksub m (kmul m (x) (kmul m (ksub m (kmul m (a) (kmul m (z) (z))) (x)) (ksub m (kmul m (a) (kmul m (z) (z))) (x)))) (ksub m (ksub m (kmul m (ksub m (kmul m (c) (kmul m (kmul m (z) (z)) (z))) (y)) (ksub m (kmul m (c) (kmul m (kmul m (z) (z)) (z))) (y))) (kmul m (kmul m (ksub m (kmul m (a) (kmul m (z) (z))) (x)) (ksub m (kmul m (a) (kmul m (z) (z))) (x))) (ksub m (kmul m (a) (kmul m (z) (z))) (x)))) (kadd m (kmul m (x) (kmul m (ksub m (kmul m (a) (kmul m (z) (z))) (x)) (ksub m (kmul m (a) (kmul m (z) (z))) (x)))) (kmul m (x) (kmul m (ksub m (kmul m (a) (kmul m (z) (z))) (x)) (ksub m (kmul m (a) (kmul m (z) (z))) (x))))))))) | 2 => .agg (ev m (kmul m (y) (kmul m (kmul m (ksub m (kmul m (a) (kmul m (z) (z))) (x)) (ksub m (kmul m (a) (kmul m (z) (z))) (x))) (ksub m (kmul m (a) (kmul m (z) (z))) (x))))) | _ => .agg (ev m (ksub m (kmul m (ksub m (kmul m (c) (kmul m (kmul m (z) (z)) (z))) (y)) (ksub m (kmul m (x) (kmul m (ksub m (kmul m (a) (kmul m (z) (z))) (x)) (ksub m (kmul m (a) (kmul m (z) (z))) (x)))) (ksub m (ksub m (kmul m (ksub m (kmul m (c) (kmul m (kmul m (z) (z)) (z))) (y)) (ksub m (kmul m (c) (kmul m (kmul m (z) (z)) (z))) (y))) (kmul m (kmul m (ksub m (kmul m (a) (kmul m (z) (z))) (x)) (ksub m (kmul m (a) (kmul m (z) (z))) (x))) (ksub m (kmul m (a) (kmul m (z) (z))) (x)))) (kadd m (kmul m (x) (kmul m (ksub m (kmul m (a) (kmul m (z) (z))) (x)) (ksub m (kmul m (a) (kmul m (z) (z))) (x)))) (kmul m (x) (kmul m (ksub m (kmul m (a) (kmul m (z) (z))) (x)) (ksub m (kmul m (a) (kmul m (z) (z))) (x)))))))) (kmul m (y) (kmul m (kmul m (ksub m (kmul m (a) (kmul m (z) (z))) (x)) (ksub m (kmul m (a) (kmul m (z) (z))) (x))) (ksub m (kmul m (a) (kmul m (z) (z))) (x))))))) (fun i p => #[true, true, true, true, true, true, decide (0 < i), true, true, true, decide (1 < i), true, true, true, true, true, decide (2 < i), true, true, true, decide (3 < i), p, false] : Nat → Bool → Array Bool) #[.int .u64 0, .int .u64 0, .int .u64 0, .int .u64 0] 32 21 14 (by kernel_rfl) (by decide) (by kernel_rfl) hS ?_ ?_ ?_
                · intro i hi T w2 K hW2 hT hK
                  match i, hi with
                  | 0, _ =>
                    have t112 : T[112]? = some (ifv p) := hT 112 (by decide)
                    have t113 : T[113]? = some (.agg (ev m (kmul m (x) (kmul m (ksub m (kmul m (a) (kmul m (z) (z))) (x)) (ksub m (kmul m (a) (kmul m (z) (z))) (x)))))) := hT 113 (by decide)
                    have t114 : T[114]? = some (.agg (ev m (ksub m (ksub m (kmul m (ksub m (kmul m (c) (kmul m (kmul m (z) (z)) (z))) (y)) (ksub m (kmul m (c) (kmul m (kmul m (z) (z)) (z))) (y))) (kmul m (kmul m (ksub m (kmul m (a) (kmul m (z) (z))) (x)) (ksub m (kmul m (a) (kmul m (z) (z))) (x))) (ksub m (kmul m (a) (kmul m (z) (z))) (x)))) (kadd m (kmul m (x) (kmul m (ksub m (kmul m (a) (kmul m (z) (z))) (x)) (ksub m (kmul m (a) (kmul m (z) (z))) (x)))) (kmul m (x) (kmul m (ksub m (kmul m (a) (kmul m (z) (z))) (x)) (ksub m (kmul m (a) (kmul m (z) (z))) (x)))))))) := hT 114 (by decide)
                    refine wpOp_stepT (i := 6) rfl (fun K' hK' => ?_)
                    refine ite_wp (by kernel_rfl) ?_
                    refine wp_invoke2D (.tmp 112) (.tmp 113) (.tmp 114) "Sub" _ 115 rfl rfl (eval_get t112) (eval_get t113) (eval_get t114) (cm_Sub p _ _ _) (c_Sub ((HG.out.below hW2).ok) (kmul m (x) (kmul m (ksub m (kmul m (a) (kmul m (z) (z))) (x)) (ksub m (kmul m (a) (kmul m (z) (z))) (x)))) (ksub m (ksub m (kmul m (ksub m (kmul m (c) (kmul m (kmul m (z) (z)) (z))) (y)) (ksub m (kmul m (c) (kmul m (kmul m (z) (z)) (z))) (y))) (kmul m (kmul m (ksub m (kmul m (a) (kmul m (z) (z))) (x)) (ksub m (kmul m (a) (kmul m (z) (z))) (x))) (ksub m (kmul m (a) (kmul m (z) (z))) (x)))) (kadd m (kmul m (x) (kmul m (ksub m (kmul m (a) (kmul m (z) (z))) (x)) (ksub m (kmul m (a) (kmul m (z) (z))) (x)))) (kmul m (x) (kmul m (ksub m (kmul m (a) (kmul m (z) (z))) (x)) (ksub m (kmul m (a) (kmul m (z) (z))) (x))))))) ?_
                    intro w3 hb
                    exact hK' _ _ (hK w3 hb)
                  | 1, _ =>
                    have t118 : T[118]? = some (ifv p) := hT 118 (by decide)
                    have t111 : T[111]? = some (.agg (ev m (ksub m (kmul m (c) (kmul m (kmul m (z) (z)) (z))) (y)))) := hT 111 (by decide)
                    have t115 : T[115]? = some (.agg (ev m (ksub m (kmul m (x) (kmul m (ksub m (kmul m (a) (kmul m (z) (z))) (x)) (ksub m (kmul m (a) (kmul m (z) (z))) (x)))) (ksub m (ksub m (kmul m (ksub m (kmul m (c) (kmul m (kmul m (z) (z)) (z))) (y)) (ksub m (kmul m (c) (kmul m (kmul m (z) (z)) (z))) (y))) (kmul m (kmul m (ksub m (kmul m (a) (kmul m (z) (z))) (x)) (ksub m (kmul m (a) (kmul m (z) (z))) (x))) (ksub m (kmul m (a) (kmul m (z) (z))) (x)))) (kadd m (kmul m (x) (kmul m (ksub m (kmul m (a) (kmul m (z) (z))) (x)) (ksub m (kmul m (a) (kmul m (z) (z))) (x)))) (kmul m (x) (kmul m (ksub m (kmul m (a) (kmul m (z) (z))) (x)) (ksub m (kmul m (a) (kmul m (z) (z))) (x))))))))) := hT 115 (by decide)
                    refine wpOp_stepT (i := 10) rfl (fun K' hK' => ?_)
                    refine ite_wp (by kernel_rfl) ?_
                    refine wp_invoke2D (.tmp 118) (.tmp 111) (.tmp 115) "Mul" _ 119 rfl rfl (eval_get t118) (eval_get t111) (eval_get t115) (cm_Mul p _ _ _) (c_Mul ((HG.out.below hW2).ok) (ksub m (kmul m (c) (kmul m (kmul m (z) (z)) (z))) (y)) (ksub m (kmul m (x) (kmul m (ksub m (kmul m (a) (kmul m (z) (z))) (x)) (ksub m (kmul m (a) (kmul m (z) (z))) (x)))) (ksub m (ksub m (kmul m (ksub m (kmul m (c) (kmul m (kmul m (z) (z)) (z))) (y)) (ksub m (kmul m (c) (kmul m (kmul m (z) (z)) (z))) (y))) (kmul m (kmul m (ksub m (kmul m (a) (kmul m (z) (z))) (x)) (ksub m (kmul m (a) (kmul m (z) (z))) (x))) (ksub m (kmul m (a) (kmul m (z) (z))) (x)))) (kadd m (kmul m (x) (kmul m (ksub m (kmul m (a) (kmul m (z) (z))) (x)) (ksub m (kmul m (a) (kmul m (z) (z))) (x)))) (kmul m (x) (kmul m (ksub m (kmul m (a) (kmul m (z) (z))) (x)) (ksub m (kmul m (a) (kmul m (z) (z))) (x)))))))) ?_
                    intro w3 hb
                    exact hK' _ _ (hK w3 hb)
                  | 2, _ =>
                    have t120 : T[120]? = some (ifv p) := hT 120 (by decide)
                    have t123 : T[123]? = some (.agg (ev m (y))) := hT 123 (by decide)
                    have t124 : T[124]? = some (.agg (ev m (kmul m (kmul m (ksub m (kmul m (a) (kmul m (z) (z))) (x)) (ksub m (kmul m (a) (kmul m (z) (z))) (x))) (ksub m (kmul m (a) (kmul m (z) (z))) (x))))) := hT 124 (by decide)
                    refine wpOp_stepT (i := 16) rfl (fun K' hK' => ?_)
                    refine ite_wp (by kernel_rfl) ?_
                    refine wp_invoke2D (.tmp 120) (.tmp 123) (.tmp 124) "Mul" _ 125 rfl rfl (eval_get t120) (eval_get t123) (eval_get t124) (cm_Mul p _ _ _) (c_Mul ((HG.out.below hW2).ok) (y) (kmul m (kmul m (ksub m (kmul m (a) (kmul m (z) (z))) (x)) (ksub m (kmul m (a) (kmul m (z) (z))) (x))) (ksub m (kmul m (a) (kmul m (z) (z))) (x)))) ?_
                    intro w3 hb
                    exact hK' _ _ (hK w3 hb)
                  | 3, _ =>
                    have t128 : T[128]? = some (ifv p) := hT 128 (by decide)
                    have t119 : T[119]? = some (.agg (ev m (kmul m (ksub m (kmul m (c) (kmul m (kmul m (z) (z)) (z))) (y)) (ksub m (kmul m (x) (kmul m (ksub m (kmul m (a) (kmul m (z) (z))) (x)) (ksub m (kmul m (a) (kmul m (z) (z))) (x)))) (ksub m (ksub m (kmul m (ksub m (kmul m (c) (kmul m (kmul m (z) (z)) (z))) (y)) (ksub m (kmul m (c) (kmul m (kmul m (z) (z)) (z))) (y))) (kmul m (kmul m (ksub m (kmul m (a) (kmul m (z) (z))) (x)) (ksub m (kmul m (a) (kmul m (z) (z))) (x))) (ksub m (kmul m (a) (kmul m (z) (z))) (x)))) (kadd m (kmul m (x) (kmul m (ksub m (kmul m (a) (kmul m (z) (z))) (x)) (ksub m (kmul m (a) (kmul m (z) (z))) (x)))) (kmul m (x) (kmul m (ksub m (kmul m (a) (kmul m (z) (z))) (x)) (ksub m (kmul m (a) (kmul m (z) (z))) (x)))))))))) := hT 119 (by decide)
                    have t125 : T[125]? = some (.agg (ev m (kmul m (y) (kmul m (kmul m (ksub m (kmul m (a) (kmul m (z) (z))) (x)) (ksub m (kmul m (a) (kmul m (z) (z))) (x))) (ksub m (kmul m (a) (kmul m (z) (z))) (x)))))) := hT 125 (by decide)
                    refine wpOp_stepT (i := 20) rfl (fun K' hK' => ?_)
                    refine ite_wp (by kernel_rfl) ?_
                    refine wp_invoke2D (.tmp 128) (.tmp 119) (.tmp 125) "Sub" _ 129 rfl rfl (eval_get t128) (eval_get t119) (eval_get t125) (cm_Sub p _ _ _) (c_Sub ((HG.out.below hW2).ok) (kmul m (ksub m (kmul m (c) (kmul m (kmul m (z) (z)) (z))) (y)) (ksub m (kmul m (x) (kmul m (ksub m (kmul m (a) (kmul m (z) (z))) (x)) (ksub m (kmul m (a) (kmul m (z) (z))) (x)))) (ksub m (ksub m (kmul m (ksub m (kmul m (c) (kmul m (kmul m (z) (z)) (z))) (y)) (ksub m (kmul m (c) (kmul m (kmul m (z) (z)) (z))) (y))) (kmul m (kmul m (ksub m (kmul m (a) (kmul m (z) (z))) (x)) (ksub m (kmul m (a) (kmul m (z) (z))) (x))) (ksub m (kmul m (a) (kmul m (z) (z))) (x)))) (kadd m (kmul m (x) (kmul m (ksub m (kmul m (a) (kmul m (z) (z))) (x)) (ksub m (kmul m (a) (kmul m (z) (z))) (x)))) (kmul m (x) (kmul m (ksub m (kmul m (a) (kmul m (z) (z))) (x)) (ksub m (kmul m (a) (kmul m (z) (z))) (x)))))))) (kmul m (y) (kmul m (kmul m (ksub m (kmul m (a) (kmul m (z) (z))) (x)) (ksub m (kmul m (a) (kmul m (z) (z))) (x))) (ksub m (kmul m (a) (kmul m (z) (z))) (x))))) ?_
                    intro w3 hb
                    exact hK' _ _ (hK w3 hb)
                  | k' + 4, h => exact absurd h (by omega)
                · intro T w2 K hT hK
                  refine wpOp_stepT rfl (fun K' hK' => ?_)
                  have HK' := hideP hK'
                  have HK9 := hideP hK
                  clear hK hK'
                  go_simp
                  exact HK'.out _ _ HK9.out
                intro x30 B29 hS lB29 hB29
                simp only [TC, List.set_cons_succ, List.set_cons_zero]
                refine wpAnyH_ready (rs := [22]) (by kernel_rfl) (by simp) (AllReadyH.cons rfl (fun K hK => ?_) AllReadyH.nil)
                refine ite_wp (by kernel_rfl) ?_
                refine wp_store_midN 32 (.tmp 14) (.tmp 129) rfl rfl (B29) 0 (ev m (ksub m (kmul m (ksub m (kmul m (c) (kmul m (kmul m (z) (z)) (z))) (y)) (ksub m (kmul m (x) (kmul m (ksub m (kmul m (a) (kmul m (z) (z))) (x)) (ksub m (kmul m (a) (kmul m (z) (z))) (x)))) (ksub m (ksub m (kmul m (ksub m (kmul m (c) (kmul m (kmul m (z) (z)) (z))) (y)) (ksub m (kmul m (c) (kmul m (kmul m (z) (z)) (z))) (y))) (kmul m (kmul m (ksub m (kmul m (a) (kmul m (z) (z))) (x)) (ksub m (kmul m (a) (kmul m (z) (z))) (x))) (ksub m (kmul m (a) (kmul m (z) (z))) (x)))) (kadd m (kmul m (x) (kmul m (ksub m (kmul m (a) (kmul m (z) (z))) (x)) (ksub m (kmul m (a) (kmul m (z) (z))) (x)))) (kmul m (x) (kmul m (ksub m (kmul m (a) (kmul m (z) (z))) (x)) (ksub m (kmul m (a) (kmul m (z) (z))) (x)))))))) (kmul m (y) (kmul m (kmul m (ksub m (kmul m (a) (kmul m (z) (z))) (x)) (ksub m (kmul m (a) (kmul m (z) (z))) (x))) (ksub m (kmul m (a) (kmul m (z) (z))) (x)))))) rfl rfl (there_of hB29 (zc_size.trans (ev_size _ _).symm)) (infoE (ev_size _ _)) (ev_one _ _) ?_
                have hB299 := blk_sets (ev m (ksub m (kmul m (ksub m (kmul m (c) (kmul m (kmul m (z) (z)) (z))) (y)) (ksub m (kmul m (x) (kmul m (ksub m (kmul m (a) (kmul m (z) (z))) (x)) (ksub m (kmul m (a) (kmul m (z) (z))) (x)))) (ksub m (ksub m (kmul m (ksub m (kmul m (c) (kmul m (kmul m (z) (z)) (z))) (y)) (ksub m (kmul m (c) (kmul m (kmul m (z) (z)) (z))) (y))) (kmul m (kmul m (ksub m (kmul m (a) (kmul m (z) (z))) (x)) (ksub m (kmul m (a) (kmul m (z) (z))) (x))) (ksub m (kmul m (a) (kmul m (z) (z))) (x)))) (kadd m (kmul m (x) (kmul m (ksub m (kmul m (a) (kmul m (z) (z))) (x)) (ksub m (kmul m (a) (kmul m (z) (z))) (x)))) (kmul m (x) (kmul m (ksub m (kmul m (a) (kmul m (z) (z))) (x)) (ksub m (kmul m (a) (kmul m (z) (z))) (x)))))))) (kmul m (y) (kmul m (kmul m (ksub m (kmul m (a) (kmul m (z) (z))) (x)) (ksub m (kmul m (a) (kmul m (z) (z))) (x))) (ksub m (kmul m (a) (kmul m (z) (z))) (x)))))).toList 0 hB29
                rw [putAll_eq (zc_size.trans (ev_size _ _).symm)] at hB299
                have hB1 := But.sets (ev m (ksub m (kmul m (ksub m (kmul m (c) (kmul m (kmul m (z) (z)) (z))) (y)) (ksub m (kmul m (x) (kmul m (ksub m (kmul m (a) (kmul m (z) (z))) (x)) (ksub m (kmul m (a) (kmul m (z) (z))) (x)))) (ksub m (ksub m (kmul m (ksub m (kmul m (c) (kmul m (kmul m (z) (z)) (z))) (y)) (ksub m (kmul m (c) (kmul m (kmul m (z) (z)) (z))) (y))) (kmul m (kmul m (ksub m (kmul m (a) (kmul m (z) (z))) (x)) (ksub m (kmul m (a) (kmul m (z) (z))) (x))) (ksub m (kmul m (a) (kmul m (z) (z))) (x)))) (kadd m (kmul m (x) (kmul m (ksub m (kmul m (a) (kmul m (z) (z))) (x)) (ksub m (kmul m (a) (kmul m (z) (z))) (x)))) (kmul m (x) (kmul m (ksub m (kmul m (a) (kmul m (z) (z))) (x)) (ksub m (kmul m (a) (kmul m (z) (z))) (x)))))))) (kmul m (y) (kmul m (kmul m (ksub m (kmul m (a) (kmul m (z) (z))) (x)) (ksub m (kmul m (a) (kmul m (z) (z))) (x))) (ksub m (kmul m (a) (kmul m (z) (z))) (x)))))).toList 0 (But.refl B29 x30)
                have hSB := hS.trans (hB1.below.mono lB29)
                clear hB1 hB29
                have hB29 := hB299
                clear hB299
                generalize World.setCells x30 B29 0 (ev m (ksub m (kmul m (ksub m (kmul m (c) (kmul m (kmul m (z) (z)) (z))) (y)) (ksub m (kmul m (x) (kmul m (ksub m (kmul m (a) (kmul m (z) (z))) (x)) (ksub m (kmul m (a) (kmul m (z) (z))) (x)))) (ksub m (ksub m (kmul m (ksub m (kmul m (c) (kmul m (kmul m (z) (z)) (z))) (y)) (ksub m (kmul m (c) (kmul m (kmul m (z) (z)) (z))) (y))) (kmul m (kmul m (ksub m (kmul m (a) (kmul m (z) (z))) (x)) (ksub m (kmul m (a) (kmul m (z) (z))) (x))) (ksub m (kmul m (a) (kmul m (z) (z))) (x)))) (kadd m (kmul m (x) (kmul m (ksub m (kmul m (a) (kmul m (z) (z))) (x)) (ksub m (kmul m (a) (kmul m (z) (z))) (x)))) (kmul m (x) (kmul m (ksub m (kmul m (a) (kmul m (z) (z))) (x)) (ksub m (kmul m (a) (kmul m (z) (z))) (x)))))))) (kmul m (y) (kmul m (kmul m (ksub m (kmul m (a) (kmul m (z) (z))) (x)) (ksub m (kmul m (a) (kmul m (z) (z))) (x))) (ksub m (kmul m (a) (kmul m (z) (z))) (x)))))).toList = x31 at *
                refine hK.out _ _ hSB (fun hS => ?_)
                clear hK K hSB
                refine wpAnyH_done (by kernel_rfl) ?_ _
                (try simp only [put_none])
                refine HK1.out _ _ ?_
                clear HK1 K1
                have HG9 := hideP (HG.out.below hS)
                have H09 := hideP ((hS.block _ (lt_of_block H0.out)).trans H0.out)
                have H19 := hideP ((hS.block _ (lt_of_block H1.out)).trans H1.out)
                have Hr9 := hideP ((hS.block _ (lt_of_block Hr.out)).trans Hr.out)
                have HB79 := hideP ((hS.block _ (lt_of_block HB7.out)).trans HB7.out)
                have HB149 := hideP ((hS.block _ (lt_of_block HB14.out)).trans HB14.out)
                have HB159 := hideP ((hS.block _ (lt_of_block HB15.out)).trans HB15.out)
                have HB219 := hideP ((hS.block _ (lt_of_block HB21.out)).trans HB21.out)
                have HB229 := hideP ((hS.block _ (lt_of_block HB22.out)).trans HB22.out)
                have HB269 := hideP ((hS.block _ (lt_of_block HB26.out)).trans HB26.out)
                have HBW9 := hideP (HBW.out.trans (hS.mono (Nat.le_of_lt (lt_of_block H0.out))))
                have oB29 : B26 < B29 := by have := lt_of_block HB26.out; omega
                clear hS HG HBW H0 H1 Hr HB7 HB14 HB15 HB21 HB22 HB26 lB29
                have HG := HG9
                clear HG9
                have HBW := HBW9
                clear HBW9
                have H0 := H09
                clear H09
                have H1 := H19
                clear H19
                have Hr := Hr9
                clear Hr9
                have HB7 := HB79
                clear HB79
                have HB14 := HB149
                clear HB149
                have HB15 := HB159
                clear HB159
                have HB21 := HB219
                clear HB219
                have HB22 := HB229
                clear HB229
                have HB26 := HB269
                clear HB269
                have HB29 := hideP hB29
                clear hB29
                as_aux_lemma =>
                  refine wp_seqH (fun K1 HK1 => ?_)
                  refine wp_region_heldS (S := fun V => KQ x31 B2 12 264 V) (by kernel_rfl) (KQ.init Hr.out s_B2) (fun hS => ?_)
                  refine wpAnyH_takeL (i := 0) (v := .agg (ev m (ksub m (ksub m (kmul m (ksub m (kmul m (c) (kmul m (kmul m (z) (z)) (z))) (y)) (ksub m (kmul m (c) (kmul m (kmul m (z) (z)) (z))) (y))) (kmul m (kmul m (ksub m (kmul m (a) (kmul m (z) (z))) (x)) (ksub m (kmul m (a) (kmul m (z) (z))) (x))) (ksub m (kmul m (a) (kmul m (z) (z))) (x)))) (kadd m (kmul m (x) (kmul m (ksub m (kmul m (a) (kmul m (z) (z))) (x)) (ksub m (kmul m (a) (kmul m (z) (z))) (x)))) (kmul m (x) (kmul m (ksub m (kmul m (a) (kmul m (z) (z))) (x)) (ksub m (kmul m (a) (kmul m (z) (z))) (x)))))))) rfl (by kernel_rfl) (by kernel_rfl) (by kernel_rfl) (fun _ _ _ h => h) (yields_loadC (by kernel_rfl) 32 _ rfl (B26) (0) rfl (ev m (ksub m (ksub m (kmul m (ksub m (kmul m (c) (kmul m (kmul m (z) (z)) (z))) (y)) (ksub m (kmul m (c) (kmul m (kmul m (z) (z)) (z))) (y))) (kmul m (kmul m (ksub m (kmul m (a) (kmul m (z) (z))) (x)) (ksub m (kmul m (a) (kmul m (z) (z))) (x))) (ksub m (kmul m (a) (kmul m (z) (z))) (x)))) (kadd m (kmul m (x) (kmul m (ksub m (kmul m (a) (kmul m (z) (z))) (x)) (ksub m (kmul m (a) (kmul m (z) (z))) (x)))) (kmul m (x) (kmul m (ksub m (kmul m (a) (kmul m (z) (z))) (x)) (ksub m (kmul m (a) (kmul m (z) (z))) (x))))))) _ (fun V hV => rangeOf (hV.box HB26.out (by omega))) underE rfl (infoE (ev_size _ _))) hS ?_
                  simp only [put_list, List.set_cons_succ, List.set_cons_zero]
                  refine wpAnyH_takeL (i := 1) (v := .agg (ev m (ksub m (kmul m (ksub m (kmul m (c) (kmul m (kmul m (z) (z)) (z))) (y)) (ksub m (kmul m (x) (kmul m (ksub m (kmul m (a) (kmul m (z) (z))) (x)) (ksub m (kmul m (a) (kmul m (z) (z))) (x)))) (ksub m (ksub m (kmul m (ksub m (kmul m (c) (kmul m (kmul m (z) (z)) (z))) (y)) (ksub m (kmul m (c) (kmul m (kmul m (z) (z)) (z))) (y))) (kmul m (kmul m (ksub m (kmul m (a) (kmul m (z) (z))) (x)) (ksub m (kmul m (a) (kmul m (z) (z))) (x))) (ksub m (kmul m (a) (kmul m (z) (z))) (x)))) (kadd m (kmul m (x) (kmul m (ksub m (kmul m (a) (kmul m (z) (z))) (x)) (ksub m (kmul m (a) (kmul m (z) (z))) (x)))) (kmul m (x) (kmul m (ksub m (kmul m (a) (kmul m (z) (z))) (x)) (ksub m (kmul m (a) (kmul m (z) (z))) (x)))))))) (kmul m (y) (kmul m (kmul m (ksub m (kmul m (a) (kmul m (z) (z))) (x)) (ksub m (kmul m (a) (kmul m (z) (z))) (x))) (ksub m (kmul m (a) (kmul m (z) (z))) (x))))))) rfl (by kernel_rfl) (by kernel_rfl) (by kernel_rfl) (fun _ _ _ h => h) (yields_loadC (by kernel_rfl) 32 _ rfl (B29) (0) rfl (ev m (ksub m (kmul m (ksub m (kmul m (c) (kmul m (kmul m (z) (z)) (z))) (y)) (ksub m (kmul m (x) (kmul m (ksub m (kmul m (a) (kmul m (z) (z))) (x)) (ksub m (kmul m (a) (kmul m (z) (z))) (x)))) (ksub m (ksub m (kmul m (ksub m (kmul m (c) (kmul m (kmul m (z) (z)) (z))) (y)) (ksub m (kmul m (c) (kmul m (kmul m (z) (z)) (z))) (y))) (kmul m (kmul m (ksub m (kmul m (a) (kmul m (z) (z))) (x)) (ksub m (kmul m (a) (kmul m (z) (z))) (x))) (ksub m (kmul m (a) (kmul m (z) (z))) (x)))) (kadd m (kmul m (x) (kmul m (ksub m (kmul m (a) (kmul m (z) (z))) (x)) (ksub m (kmul m (a) (kmul m (z) (z))) (x)))) (kmul m (x) (kmul m (ksub m (kmul m (a) (kmul m (z) (z))) (x)) (ksub m (kmul m (a) (kmul m (z) (z))) (x)))))))) (kmul m (y) (kmul m (kmul m (ksub m (kmul m (a) (kmul m (z) (z))) (x)) (ksub m (kmul m (a) (kmul m (z) (z))) (x))) (ksub m (kmul m (a) (kmul m (z) (z))) (x)))))) _ (fun V hV => rangeOf (hV.box HB29.out (by omega))) underE rfl (infoE (ev_size _ _))) hS ?_
                  simp only [put_list, List.set_cons_succ, List.set_cons_zero]
                  refine wpAnyH_takeL (i := 2) (v := .agg (pl m (ksub m (ksub m (kmul m (ksub m (kmul m (c) (kmul m (kmul m (z) (z)) (z))) (y)) (ksub m (kmul m (c) (kmul m (kmul m (z) (z)) (z))) (y))) (kmul m (kmul m (ksub m (kmul m (a) (kmul m (z) (z))) (x)) (ksub m (kmul m (a) (kmul m (z) (z))) (x))) (ksub m (kmul m (a) (kmul m (z) (z))) (x)))) (kadd m (kmul m (x) (kmul m (ksub m (kmul m (a) (kmul m (z) (z))) (x)) (ksub m (kmul m (a) (kmul m (z) (z))) (x)))) (kmul m (x) (kmul m (ksub m (kmul m (a) (kmul m (z) (z))) (x)) (ksub m (kmul m (a) (kmul m (z) (z))) (x)))))) (ksub m (kmul m (ksub m (kmul m (c) (kmul m (kmul m (z) (z)) (z))) (y)) (ksub m (kmul m (x) (kmul m (ksub m (kmul m (a) (kmul m (z) (z))) (x)) (ksub m (kmul m (a) (kmul m (z) (z))) (x)))) (ksub m (ksub m (kmul m (ksub m (kmul m (c) (kmul m (kmul m (z) (z)) (z))) (y)) (ksub m (kmul m (c) (kmul m (kmul m (z) (z)) (z))) (y))) (kmul m (kmul m (ksub m (kmul m (a) (kmul m (z) (z))) (x)) (ksub m (kmul m (a) (kmul m (z) (z))) (x))) (ksub m (kmul m (a) (kmul m (z) (z))) (x)))) (kadd m (kmul m (x) (kmul m (ksub m (kmul m (a) (kmul m (z) (z))) (x)) (ksub m (kmul m (a) (kmul m (z) (z))) (x)))) (kmul m (x) (kmul m (ksub m (kmul m (a) (kmul m (z) (z))) (x)) (ksub m (kmul m (a) (kmul m (z) (z))) (x)))))))) (kmul m (y) (kmul m (kmul m (ksub m (kmul m (a) (kmul m (z) (z))) (x)) (ksub m (kmul m (a) (kmul m (z) (z))) (x))) (ksub m (kmul m (a) (kmul m (z) (z))) (x))))))) rfl (by kernel_rfl) (by kernel_rfl) (by kernel_rfl) (fun _ _ _ h => h) (yields_build2 (by kernel_rfl) 262 (.tmp 130) (.tmp 131) rfl rfl rfl (bd_pl _ _ _)) hS ?_
                  simp only [put_list, List.set_cons_succ, List.set_cons_zero]
                  refine wpAnyH_takeL (i := 3) (v := ?_) rfl (by kernel_rfl) (by kernel_rfl) (by kernel_rfl) (fun _ _ _ h => h) (Or.inl ⟨by kernel_rfl, ?_⟩) hS ?_
                  rotate_left
                  · intro V hV
                    go_simp
                    (try with_reducible rfl)
                  simp only [put_list, List.set_cons_succ, List.set_cons_zero]
                  refine wpAnyH_takeL (i := 4) (v := ?_) rfl (by kernel_rfl) (by kernel_rfl) (by kernel_rfl) (fun _ _ _ h => h) (Or.inl ⟨by kernel_rfl, ?_⟩) hS ?_
                  rotate_left
                  · intro V hV
                    go_simp
                    (try with_reducible rfl)
                  simp only [put_list, List.set_cons_succ, List.set_cons_zero]
                  refine wpAnyH_takeL (i := 5) (v := .agg (ev m (z))) rfl (by kernel_rfl) (by kernel_rfl) (by kernel_rfl) (fun _ _ _ h => h) (yields_loadC (by kernel_rfl) 32 _ rfl (N) (8) rfl (ev m (z)) _ (fun V hV => sc_z (hV.box H0.out (by omega))) underE rfl (infoE (ev_size _ _))) hS ?_
                  simp only [put_list, List.set_cons_succ, List.set_cons_zero]
                  refine wpAnyH_takeL (i := 6) (v := .agg (ev m (ksub m (kmul m (a) (kmul m (z) (z))) (x)))) rfl (by kernel_rfl) (by kernel_rfl) (by kernel_rfl) (fun _ _ _ h => h) (yields_loadC (by kernel_rfl) 32 _ rfl (B14) (0) rfl (ev m (ksub m (kmul m (a) (kmul m (z) (z))) (x))) _ (fun V hV => rangeOf (hV.box HB14.out (by omega))) underE rfl (infoE (ev_size _ _))) hS ?_
                  simp only [put_list, List.set_cons_succ, List.set_cons_zero]
                  refine wpAnyH_ready (rs := [7]) (by kernel_rfl) (by simp) (AllReadyH.cons rfl (fun K hK => ?_) AllReadyH.nil)
                  refine ite_wp (by kernel_rfl) ?_
                  refine wp_invoke2D (.tmp 133) (.tmp 135) (.tmp 136) "Mul" _ 137 rfl rfl rfl rfl rfl (cm_Mul p _ _ _) (c_Mul ((HG.out.kq hS (by omega) (by omega)).ok) (z) (ksub m (kmul m (a) (kmul m (z) (z))) (x))) ?_
                  intro x32 hbc
                  refine hK.out _ _ (hS.call hbc) (fun hS => ?_)
                  clear hK K hbc
                  simp only [List.set_cons_succ, List.set_cons_zero]
                  refine wpAnyH_takeL (i := 8) (v := .agg (sc m (ksub m (ksub m (kmul m (ksub m (kmul m (c) (kmul m (kmul m (z) (z)) (z))) (y)) (ksub m (kmul m (c) (kmul m (kmul m (z) (z)) (z))) (y))) (kmul m (kmul m (ksub m (kmul m (a) (kmul m (z) (z))) (x)) (ksub m (kmul m (a) (kmul m (z) (z))) (x))) (ksub m (kmul m (a) (kmul m (z) (z))) (x)))) (kadd m (kmul m (x) (kmul m (ksub m (kmul m (a) (kmul m (z) (z))) (x)) (ksub m (kmul m (a) (kmul m (z) (z))) (x)))) (kmul m (x) (kmul m (ksub m (kmul m (a) (kmul m (z) (z))) (x)) (ksub m (kmul m (a) (kmul m (z) (z))) (x)))))) (ksub m (kmul m (ksub m (kmul m (c) (kmul m (kmul m (z) (z)) (z))) (y)) (ksub m (kmul m (x) (kmul m (ksub m (kmul m (a) (kmul m (z) (z))) (x)) (ksub m (kmul m (a) (kmul m (z) (z))) (x)))) (ksub m (ksub m (kmul m (ksub m (kmul m (c) (kmul m (kmul m (z) (z)) (z))) (y)) (ksub m (kmul m (c) (kmul m (kmul m (z) (z)) (z))) (y))) (kmul m (kmul m (ksub m (kmul m (a) (kmul m (z) (z))) (x)) (ksub m (kmul m (a) (kmul m (z) (z))) (x))) (ksub m (kmul m (a) (kmul m (z) (z))) (x)))) (kadd m (kmul m (x) (kmul m (ksub m (kmul m (a) (kmul m (z) (z))) (x)) (ksub m (kmul m (a) (kmul m (z) (z))) (x)))) (kmul m (x) (kmul m (ksub m (kmul m (a) (kmul m (z) (z))) (x)) (ksub m (kmul m (a) (kmul m (z) (z))) (x)))))))) (kmul m (y) (kmul m (kmul m (ksub m (kmul m (a) (kmul m (z) (z))) (x)) (ksub m (kmul m (a) (kmul m (z) (z))) (x))) (ksub m (kmul m (a) (kmul m (z) (z))) (x))))) (kmul m (z) (ksub m (kmul m (a) (kmul m (z) (z))) (x))))) rfl (by kernel_rfl) (by kernel_rfl) (by kernel_rfl) (fun _ _ _ h => h) (yields_build2 (by kernel_rfl) 264 (.tmp 132) (.tmp 137) rfl rfl rfl (bd_sc _ _ _ _)) hS ?_
                  simp only [put_list, List.set_cons_succ, List.set_cons_zero]
                  refine wpAnyH_ready (rs := [9]) (by kernel_rfl) (by simp) (AllReadyH.cons rfl (fun K hK => ?_) AllReadyH.nil)
                  refine ite_wp (by kernel_rfl) ?_
                  refine wp_store_midN 264 (.tmp 6) (.tmp 138) rfl rfl (B2) 0 (sc m (ksub m (ksub m (kmul m (ksub m (kmul m (c) (kmul m (kmul m (z) (z)) (z))) (y)) (ksub m (kmul m (c) (kmul m (kmul m (z) (z)) (z))) (y))) (kmul m (kmul m (ksub m (kmul m (a) (kmul m (z) (z))) (x)) (ksub m (kmul m (a) (kmul m (z) (z))) (x))) (ksub m (kmul m (a) (kmul m (z) (z))) (x)))) (kadd m (kmul m (x) (kmul m (ksub m (kmul m (a) (kmul m (z) (z))) (x)) (ksub m (kmul m (a) (kmul m (z) (z))) (x)))) (kmul m (x) (kmul m (ksub m (kmul m (a) (kmul m (z) (z))) (x)) (ksub m (kmul m (a) (kmul m (z) (z))) (x)))))) (ksub m (kmul m (ksub m (kmul m (c) (kmul m (kmul m (z) (z)) (z))) (y)) (ksub m (kmul m (x) (kmul m (ksub m (kmul m (a) (kmul m (z) (z))) (x)) (ksub m (kmul m (a) (kmul m (z) (z))) (x)))) (ksub m (ksub m (kmul m (ksub m (kmul m (c) (kmul m (kmul m (z) (z)) (z))) (y)) (ksub m (kmul m (c) (kmul m (kmul m (z) (z)) (z))) (y))) (kmul m (kmul m (ksub m (kmul m (a) (kmul m (z) (z))) (x)) (ksub m (kmul m (a) (kmul m (z) (z))) (x))) (ksub m (kmul m (a) (kmul m (z) (z))) (x)))) (kadd m (kmul m (x) (kmul m (ksub m (kmul m (a) (kmul m (z) (z))) (x)) (ksub m (kmul m (a) (kmul m (z) (z))) (x)))) (kmul m (x) (kmul m (ksub m (kmul m (a) (kmul m (z) (z))) (x)) (ksub m (kmul m (a) (kmul m (z) (z))) (x)))))))) (kmul m (y) (kmul m (kmul m (ksub m (kmul m (a) (kmul m (z) (z))) (x)) (ksub m (kmul m (a) (kmul m (z) (z))) (x))) (ksub m (kmul m (a) (kmul m (z) (z))) (x))))) (kmul m (z) (ksub m (kmul m (a) (kmul m (z) (z))) (x)))) rfl rfl (hS.there (sc_size _ _ _ _)) (infoSc (sc_size _ _ _ _)) (sc_one _ _ _ _) ?_
                  have g1 := hS.put (C := sc m (ksub m (ksub m (kmul m (ksub m (kmul m (c) (kmul m (kmul m (z) (z)) (z))) (y)) (ksub m (kmul m (c) (kmul m (kmul m (z) (z)) (z))) (y))) (kmul m (kmul m (ksub m (kmul m (a) (kmul m (z) (z))) (x)) (ksub m (kmul m (a) (kmul m (z) (z))) (x))) (ksub m (kmul m (a) (kmul m (z) (z))) (x)))) (kadd m (kmul m (x) (kmul m (ksub m (kmul m (a) (kmul m (z) (z))) (x)) (ksub m (kmul m (a) (kmul m (z) (z))) (x)))) (kmul m (x) (kmul m (ksub m (kmul m (a) (kmul m (z) (z))) (x)) (ksub m (kmul m (a) (kmul m (z) (z))) (x)))))) (ksub m (kmul m (ksub m (kmul m (c) (kmul m (kmul m (z) (z)) (z))) (y)) (ksub m (kmul m (x) (kmul m (ksub m (kmul m (a) (kmul m (z) (z))) (x)) (ksub m (kmul m (a) (kmul m (z) (z))) (x)))) (ksub m (ksub m (kmul m (ksub m (kmul m (c) (kmul m (kmul m (z) (z)) (z))) (y)) (ksub m (kmul m (c) (kmul m (kmul m (z) (z)) (z))) (y))) (kmul m (kmul m (ksub m (kmul m (a) (kmul m (z) (z))) (x)) (ksub m (kmul m (a) (kmul m (z) (z))) (x))) (ksub m (kmul m (a) (kmul m (z) (z))) (x)))) (kadd m (kmul m (x) (kmul m (ksub m (kmul m (a) (kmul m (z) (z))) (x)) (ksub m (kmul m (a) (kmul m (z) (z))) (x)))) (kmul m (x) (kmul m (ksub m (kmul m (a) (kmul m (z) (z))) (x)) (ksub m (kmul m (a) (kmul m (z) (z))) (x)))))))) (kmul m (y) (kmul m (kmul m (ksub m (kmul m (a) (kmul m (z) (z))) (x)) (ksub m (kmul m (a) (kmul m (z) (z))) (x))) (ksub m (kmul m (a) (kmul m (z) (z))) (x))))) (kmul m (z) (ksub m (kmul m (a) (kmul m (z) (z))) (x)))) (sc_size _ _ _ _)
                  have hS9 := hS.store (C := sc m (ksub m (ksub m (kmul m (ksub m (kmul m (c) (kmul m (kmul m (z) (z)) (z))) (y)) (ksub m (kmul m (c) (kmul m (kmul m (z) (z)) (z))) (y))) (kmul m (kmul m (ksub m (kmul m (a) (kmul m (z) (z))) (x)) (ksub m (kmul m (a) (kmul m (z) (z))) (x))) (ksub m (kmul m (a) (kmul m (z) (z))) (x)))) (kadd m (kmul m (x) (kmul m (ksub m (kmul m (a) (kmul m (z) (z))) (x)) (ksub m (kmul m (a) (kmul m (z) (z))) (x)))) (kmul m (x) (kmul m (ksub m (kmul m (a) (kmul m (z) (z))) (x)) (ksub m (kmul m (a) (kmul m (z) (z))) (x)))))) (ksub m (kmul m (ksub m (kmul m (c) (kmul m (kmul m (z) (z)) (z))) (y)) (ksub m (kmul m (x) (kmul m (ksub m (kmul m (a) (kmul m (z) (z))) (x)) (ksub m (kmul m (a) (kmul m (z) (z))) (x)))) (ksub m (ksub m (kmul m (ksub m (kmul m (c) (kmul m (kmul m (z) (z)) (z))) (y)) (ksub m (kmul m (c) (kmul m (kmul m (z) (z)) (z))) (y))) (kmul m (kmul m (ksub m (kmul m (a) (kmul m (z) (z))) (x)) (ksub m (kmul m (a) (kmul m (z) (z))) (x))) (ksub m (kmul m (a) (kmul m (z) (z))) (x)))) (kadd m (kmul m (x) (kmul m (ksub m (kmul m (a) (kmul m (z) (z))) (x)) (ksub m (kmul m (a) (kmul m (z) (z))) (x)))) (kmul m (x) (kmul m (ksub m (kmul m (a) (kmul m (z) (z))) (x)) (ksub m (kmul m (a) (kmul m (z) (z))) (x)))))))) (kmul m (y) (kmul m (kmul m (ksub m (kmul m (a) (kmul m (z) (z))) (x)) (ksub m (kmul m (a) (kmul m (z) (z))) (x))) (ksub m (kmul m (a) (kmul m (z) (z))) (x))))) (kmul m (z) (ksub m (kmul m (a) (kmul m (z) (z))) (x)))) (sc_size _ _ _ _)
                  clear hS
                  generalize World.setCells _ (B2) 0 (sc m (ksub m (ksub m (kmul m (ksub m (kmul m (c) (kmul m (kmul m (z) (z)) (z))) (y)) (ksub m (kmul m (c) (kmul m (kmul m (z) (z)) (z))) (y))) (kmul m (kmul m (ksub m (kmul m (a) (kmul m (z) (z))) (x)) (ksub m (kmul m (a) (kmul m (z) (z))) (x))) (ksub m (kmul m (a) (kmul m (z) (z))) (x)))) (kadd m (kmul m (x) (kmul m (ksub m (kmul m (a) (kmul m (z) (z))) (x)) (ksub m (kmul m (a) (kmul m (z) (z))) (x)))) (kmul m (x) (kmul m (ksub m (kmul m (a) (kmul m (z) (z))) (x)) (ksub m (kmul m (a) (kmul m (z) (z))) (x)))))) (ksub m (kmul m (ksub m (kmul m (c) (kmul m (kmul m (z) (z)) (z))) (y)) (ksub m (kmul m (x) (kmul m (ksub m (kmul m (a) (kmul m (z) (z))) (x)) (ksub m (kmul m (a) (kmul m (z) (z))) (x)))) (ksub m (ksub m (kmul m (ksub m (kmul m (c) (kmul m (kmul m (z) (z)) (z))) (y)) (ksub m (kmul m (c) (kmul m (kmul m (z) (z)) (z))) (y))) (kmul m (kmul m (ksub m (kmul m (a) (kmul m (z) (z))) (x)) (ksub m (kmul m (a) (kmul m (z) (z))) (x))) (ksub m (kmul m (a) (kmul m (z) (z))) (x)))) (kadd m (kmul m (x) (kmul m (ksub m (kmul m (a) (kmul m (z) (z))) (x)) (ksub m (kmul m (a) (kmul m (z) (z))) (x)))) (kmul m (x) (kmul m (ksub m (kmul m (a) (kmul m (z) (z))) (x)) (ksub m (kmul m (a) (kmul m (z) (z))) (x)))))))) (kmul m (y) (kmul m (kmul m (ksub m (kmul m (a) (kmul m (z) (z))) (x)) (ksub m (kmul m (a) (kmul m (z) (z))) (x))) (ksub m (kmul m (a) (kmul m (z) (z))) (x))))) (kmul m (z) (ksub m (kmul m (a) (kmul m (z) (z))) (x)))).toList = x33 at g1 hS9 ⊢
                  refine hK.out _ _ hS9 (fun hS => ?_)
                  clear hK K hS9
                  refine wpAnyH_done (by kernel_rfl) ?_ _
                  (try simp only [put_none])
                  refine HK1.out _ _ ?_
                  clear HK1 K1
                  refine wp_ret ?_
                  exact bodyPost_ret_by (results_cell rfl rfl (loadC _ B2 0 264 (sc m (ksub m (ksub m (kmul m (ksub m (kmul m (c) (kmul m (kmul m (z) (z)) (z))) (y)) (ksub m (kmul m (c) (kmul m (kmul m (z) (z)) (z))) (y))) (kmul m (kmul m (ksub m (kmul m (a) (kmul m (z) (z))) (x)) (ksub m (kmul m (a) (kmul m (z) (z))) (x))) (ksub m (kmul m (a) (kmul m (z) (z))) (x)))) (kadd m (kmul m (x) (kmul m (ksub m (kmul m (a) (kmul m (z) (z))) (x)) (ksub m (kmul m (a) (kmul m (z) (z))) (x)))) (kmul m (x) (kmul m (ksub m (kmul m (a) (kmul m (z) (z))) (x)) (ksub m (kmul m (a) (kmul m (z) (z))) (x)))))) (ksub m (kmul m (ksub m (kmul m (c) (kmul m (kmul m (z) (z)) (z))) (y)) (ksub m (kmul m (x) (kmul m (ksub m (kmul m (a) (kmul m (z) (z))) (x)) (ksub m (kmul m (a) (kmul m (z) (z))) (x)))) (ksub m (ksub m (kmul m (ksub m (kmul m (c) (kmul m (kmul m (z) (z)) (z))) (y)) (ksub m (kmul m (c) (kmul m (kmul m (z) (z)) (z))) (y))) (kmul m (kmul m (ksub m (kmul m (a) (kmul m (z) (z))) (x)) (ksub m (kmul m (a) (kmul m (z) (z))) (x))) (ksub m (kmul m (a) (kmul m (z) (z))) (x)))) (kadd m (kmul m (x) (kmul m (ksub m (kmul m (a) (kmul m (z) (z))) (x)) (ksub m (kmul m (a) (kmul m (z) (z))) (x)))) (kmul m (x) (kmul m (ksub m (kmul m (a) (kmul m (z) (z))) (x)) (ksub m (kmul m (a) (kmul m (z) (z))) (x)))))))) (kmul m (y) (kmul m (kmul m (ksub m (kmul m (a) (kmul m (z) (z))) (x)) (ksub m (kmul m (a) (kmul m (z) (z))) (x))) (ksub m (kmul m (a) (kmul m (z) (z))) (x))))) (kmul m (z) (ksub m (kmul m (a) (kmul m (z) (z))) (x)))) _ (rangeOf g1) underSc rfl (infoSc (sc_size _ _ _ _)))) rfl ⟨rfl, HBW.out.trans (hS.below.mono (by omega))⟩

end Go.Proofs.YtppijhcfodccfaaGreat.P4
