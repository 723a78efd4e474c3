/-
  A scaled point and its own place, added.
-/
import Derived.Test.YtppijhcfodccfaaGreatCurveNoneC14
import Derived.Test.YtppijhcfodccfaaGreatCurveNoneC15
import Derived.Test.YtppijhcfodccfaaGreatCurveNoneC04
namespace Go.Proofs.YtppijhcfodccfaaGreat.P4
open Go.RowKit Go.Shelf

set_option maxHeartbeats 4000000 in
set_option maxRecDepth 100000 in
theorem plus_same {w : World} {g p m : Nat} {b : K} (hG : GAt w g p m b) (x y z a c : K) (hz : ¬ Like m z k0) (hq : (Like m (kmul m (a) (kmul m (z) (z))) x ∧ Like m (kmul m (c) (kmul m (kmul m (z) (z)) (z))) y)) : Calls Tryz.prog 180 #[.pointer (some ⟨g, 0, none⟩), .agg (sc m x y z), .agg (pl m a c)] w fun e w' => e = .returned (.agg (sc m (ksub m (kmul m (kadd m (kmul m (x) (x)) (kadd m (kmul m (x) (x)) (kmul m (x) (x)))) (kadd m (kmul m (x) (x)) (kadd m (kmul m (x) (x)) (kmul m (x) (x))))) (kadd m (kadd m (kadd m (kmul m (x) (kmul m (y) (y))) (kmul m (x) (kmul m (y) (y)))) (kadd m (kmul m (x) (kmul m (y) (y))) (kmul m (x) (kmul m (y) (y))))) (kadd m (kadd m (kmul m (x) (kmul m (y) (y))) (kmul m (x) (kmul m (y) (y)))) (kadd m (kmul m (x) (kmul m (y) (y))) (kmul m (x) (kmul m (y) (y))))))) (ksub m (kmul m (kadd m (kmul m (x) (x)) (kadd m (kmul m (x) (x)) (kmul m (x) (x)))) (ksub m (kadd m (kadd m (kmul m (x) (kmul m (y) (y))) (kmul m (x) (kmul m (y) (y)))) (kadd m (kmul m (x) (kmul m (y) (y))) (kmul m (x) (kmul m (y) (y))))) (ksub m (kmul m (kadd m (kmul m (x) (x)) (kadd m (kmul m (x) (x)) (kmul m (x) (x)))) (kadd m (kmul m (x) (x)) (kadd m (kmul m (x) (x)) (kmul m (x) (x))))) (kadd m (kadd m (kadd m (kmul m (x) (kmul m (y) (y))) (kmul m (x) (kmul m (y) (y)))) (kadd m (kmul m (x) (kmul m (y) (y))) (kmul m (x) (kmul m (y) (y))))) (kadd m (kadd m (kmul m (x) (kmul m (y) (y))) (kmul m (x) (kmul m (y) (y)))) (kadd m (kmul m (x) (kmul m (y) (y))) (kmul m (x) (kmul m (y) (y))))))))) (kadd m (kadd m (kadd m (kmul m (kmul m (y) (y)) (kmul m (y) (y))) (kmul m (kmul m (y) (y)) (kmul m (y) (y)))) (kadd m (kmul m (kmul m (y) (y)) (kmul m (y) (y))) (kmul m (kmul m (y) (y)) (kmul m (y) (y))))) (kadd m (kadd m (kmul m (kmul m (y) (y)) (kmul m (y) (y))) (kmul m (kmul m (y) (y)) (kmul m (y) (y)))) (kadd m (kmul m (kmul m (y) (y)) (kmul m (y) (y))) (kmul m (kmul m (y) (y)) (kmul m (y) (y))))))) (kadd m (kmul m (y) (z)) (kmul m (y) (z))))) ∧ Below w.heap.size w w' := by
  have hg := hG.glt
  have hp := hG.plt
  have HG9 := hideP hG
  clear hG
  go_enter Tryz.func180, Tryz.ntmps180
  refine wp_seqH (fun K0 HK0 => ?_)
  go_wp2_with fail
  refine HK0.out _ _ ?_
  clear HK0 K0
  refine at_world (fun W0 hW0 => ?_)
  have hb0 : W0.heap[w.heap.size]? = some (.cells (sc m (x) (y) (z)) 264 (0, 0)) := by
    rw [hW0]
    exact ((heap_old _ _ (by simp <;> omega)).trans ((heap_old _ _ (by simp <;> omega)).trans (heap_new _ _)))
  have hb1 : W0.heap[w.heap.size + 1]? = some (.cells (pl m (a) (c)) 262 (0, 0)) := by
    rw [hW0]
    exact ((heap_old _ _ (by simp <;> omega)).trans (heap_new1 _ _ _))
  have hbr : ∃ C : Array Value, W0.heap[w.heap.size + 1 + 1]? = some (.cells C 264 (0, 0)) ∧ C.size = 12 := by
    rw [hW0]
    exact ⟨_, heap_new2 _ _ _ _, rfl⟩
  have hbw : Below w.heap.size w W0 := by
    rw [hW0]
    repeat first | exact Below.refl _ _ | (refine Below.alloc ?_ (by simp <;> omega) _)
  clear hW0
  have HG := hideP (HG9.out.below hbw)
  clear HG9
  have HBW := hideP hbw
  clear hbw
  generalize hN : w.heap.size = N at *
  clear hN
  generalize hB1 : N + 1 = B1 at *
  generalize hB2 : B1 + 1 = B2 at *
  have o1 : N < B1 := by omega
  have o2 : B1 < B2 := by omega
  clear hB2
  clear hB1
  have H0 := hideP hb0
  clear hb0
  have H1 := hideP hb1
  clear hb1
  obtain ⟨Cr, hbr, s_B2⟩ := hbr
  have Hr := hideP hbr
  clear hbr
  refine wp_seqH (fun K2 HK2 => ?_)
  refine wp_seqH (fun K1 HK1 => ?_)
  refine wp_region_heldS (S := fun V => Below W0.heap.size W0 V) (by kernel_rfl) (Below.refl _ _).drew (fun hS => ?_)
  refine wpAnyH_takeL (i := 0) (v := ?_) rfl (by kernel_rfl) (by kernel_rfl) (by kernel_rfl) (fun _ _ _ h => h) (Or.inl ⟨by kernel_rfl, ?_⟩) hS ?_
  rotate_left
  · intro V hV
    go_simp
    (try with_reducible rfl)
  simp only [put_list, List.set_cons_succ, List.set_cons_zero]
  refine wpAnyH_takeL (i := 1) (v := .agg (ev m (z))) rfl (by kernel_rfl) (by kernel_rfl) (by kernel_rfl) (fun _ _ _ h => h) (yields_loadC (by kernel_rfl) 32 _ rfl (N) (8) rfl (ev m (z)) _ (fun V hV => sc_z ((hV.block _ (lt_of_block H0.out)).trans H0.out)) underE rfl (infoE (ev_size _ _))) hS ?_
  simp only [put_list, List.set_cons_succ, List.set_cons_zero]
  refine wpAnyH_takeL (i := 2) (v := ?_) rfl (by kernel_rfl) (by kernel_rfl) (by kernel_rfl) (fun _ _ _ h => h) (Or.inl ⟨by kernel_rfl, ?_⟩) hS ?_
  rotate_left
  · intro V hV
    go_simp
    (try with_reducible rfl)
  simp only [put_list, List.set_cons_succ, List.set_cons_zero]
  refine wpAnyH_takeL (i := 3) (v := ?_) rfl (by kernel_rfl) (by kernel_rfl) (by kernel_rfl) (fun _ _ _ h => h) (Or.inl ⟨by kernel_rfl, ?_⟩) hS ?_
  rotate_left
  · intro V hV
    go_simp
    (try with_reducible rfl)
  simp only [put_list, List.set_cons_succ, List.set_cons_zero]
  refine wpAnyH_takeL (i := 4) (v := ?_) rfl (by kernel_rfl) (by kernel_rfl) (by kernel_rfl) (fun _ _ _ h => h) (Or.inl ⟨by kernel_rfl, ?_⟩) hS ?_
  rotate_left
  · intro V hV
    go_simp
    (try with_reducible rfl)
  simp only [put_list, List.set_cons_succ, List.set_cons_zero]
  refine wpAnyH_takeL (i := 5) (v := .agg (ev m (k0))) rfl (by kernel_rfl) (by kernel_rfl) (by kernel_rfl) (fun _ _ _ h => h) (yields_loadC (by kernel_rfl) 32 _ rfl (g) (1) rfl (ev m (k0)) _ (fun V hV => (HG.out.below hV).zero) underE rfl (infoE (ev_size _ _))) hS ?_
  simp only [put_list, List.set_cons_succ, List.set_cons_zero]
  refine wpAnyH_takeL (i := 6) (v := .bool false) rfl (by kernel_rfl) (by kernel_rfl) (by kernel_rfl) (fun _ _ _ h => h) (yields_eql (by kernel_rfl) 32 32 (.tmp 16) (.tmp 20) rfl rfl rfl gqE (fun w => ((eqE 9998 HG.out.ok (z) (k0) w).trans (by rw [decide_eq_false hz])))) hS ?_
  simp only [put_list, List.set_cons_succ, List.set_cons_zero]
  refine wpAnyH_done (by kernel_rfl) ?_ _
  (try simp only [put_none])
  generalize W0.drew = x5 at hS ⊢
  refine HK1.out _ _ ?_
  clear HK1 K1
  have HG9 := hideP (HG.out.below hS)
  have H09 := hideP ((hS.block _ (lt_of_block H0.out)).trans H0.out)
  have H19 := hideP ((hS.block _ (lt_of_block H1.out)).trans H1.out)
  have Hr9 := hideP ((hS.block _ (lt_of_block Hr.out)).trans Hr.out)
  have HBW9 := hideP (HBW.out.trans (hS.mono (Nat.le_of_lt (lt_of_block H0.out))))
  clear hS HG HBW H0 H1 Hr 
  have HG := HG9
  clear HG9
  have HBW := HBW9
  clear HBW9
  have H0 := H09
  clear H09
  have H1 := H19
  clear H19
  have Hr := Hr9
  clear Hr9
  as_aux_lemma =>
    refine wp_cond_false rfl ?_
    refine wp_skip ?_
    refine HK2.out _ _ ?_
    clear HK2 K2
    refine wp_seqH (fun K1 HK1 => ?_)
    refine wp_region_list ?_
    have hS := Below.refl x5.heap.size x5
    refine wpList_oper rfl (fun K hK => ?_)
    go_simp
    refine hK _ _ ?_
    clear hK K
    refine wpList_oper rfl (fun K hK => ?_)
    go_simp
    refine hK _ _ ?_
    clear hK K
    refine wpList_oper rfl (fun K hK => ?_)
    go_simp
    refine hK _ _ ?_
    clear hK K
    refine wpList_oper rfl (fun K hK => ?_)
    have hf := (HG.out.below hS).fld
    go_simp
    refine hK _ _ ?_
    clear hK K hf
    refine wpList_oper rfl (fun K hK => ?_)
    go_simp
    refine hK _ _ ?_
    clear hK K
    refine wpList_nil ?_
    refine HK1.out _ _ ?_
    clear HK1 K1
    clear hS
    refine wp_seqH (fun K1 HK1 => ?_)
    refine wp_region_list ?_
    have hS := Below.refl x5.heap.size x5
    refine wpList_oper rfl (fun K hK => ?_)
    go_simp
    refine hK _ _ ?_
    clear hK K
    refine wpList_oper rfl (fun K hK => ?_)
    go_simp
    refine hK _ _ ?_
    clear hK K
    refine wpList_load_midD rfl 32 (.tmp 33) 34 rfl rfl (N) (8) (ev m (z)) rfl _ (sc_z ((hS.block _ (lt_of_block H0.out)).trans H0.out)) underE rfl (infoE (ev_size _ _)) ?_
    simp only [List.set_cons_succ, List.set_cons_zero]
    refine wpList_oper rfl (fun K hK => ?_)
    go_simp
    refine hK _ _ ?_
    clear hK K
    refine wpList_load_midD rfl 32 (.tmp 35) 36 rfl rfl (N) (8) (ev m (z)) rfl _ (sc_z ((hS.block _ (lt_of_block H0.out)).trans H0.out)) underE rfl (infoE (ev_size _ _)) ?_
    simp only [List.set_cons_succ, List.set_cons_zero]
    refine wpList_oper rfl (fun K hK => ?_)
    refine wp_invoke2D (.tmp 32) (.tmp 34) (.tmp 36) "Mul" _ 37 rfl rfl rfl rfl rfl (cm_Mul p _ _ _) (c_Mul ((HG.out.below hS).ok) (z) (z)) ?_
    intro x6 hbc
    refine hK _ _ ?_
    clear hK K
    have hS9 := hS.trans (hbc.mono hS.size)
    clear hS hbc
    have hS := hS9
    clear hS9
    simp only [List.set_cons_succ, List.set_cons_zero]
    refine wpList_oper rfl (fun K hK => ?_)
    go_simp
    refine hK _ _ ?_
    clear hK K
    refine at_worldL (fun x8 hw9 => ?_)
    have hB7 := heap_new x6 (.cells #[.int .u64 0, .int .u64 0, .int .u64 0, .int .u64 0] 32 (0, 0))
    have lB7 := hS.size
    have hS9 := hS.alloc hS.size (.cells #[.int .u64 0, .int .u64 0, .int .u64 0, .int .u64 0] 32 (0, 0))
    rw [← hw9] at hB7 hS9
    clear hS hw9
    have hS := hS9
    clear hS9
    generalize x6.heap.size = B7 at *
    refine wpList_store_midD rfl 32 (.tmp 8) (.tmp 37) rfl rfl (B7) 0 (ev m (kmul m (z) (z))) rfl rfl (there_of hB7 (zc_size.trans (ev_size _ _).symm)) (infoE (ev_size _ _)) (ev_one _ _) ?_
    have hB79 := blk_sets (ev m (kmul m (z) (z))).toList 0 hB7
    rw [putAll_eq (zc_size.trans (ev_size _ _).symm)] at hB79
    have hB1 := But.sets (ev m (kmul m (z) (z))).toList 0 (But.refl B7 x8)
    have hSB := hS.trans (hB1.below.mono lB7)
    clear hB1 hB7 hS
    have hB7 := hB79
    have hS := hSB
    clear hB79 hSB
    generalize World.setCells x8 B7 0 (ev m (kmul m (z) (z))).toList = x9 at *
    refine wpList_nil ?_
    refine HK1.out _ _ ?_
    clear HK1 K1
    have HG9 := hideP (HG.out.below hS)
    have H09 := hideP ((hS.block _ (lt_of_block H0.out)).trans H0.out)
    have H19 := hideP ((hS.block _ (lt_of_block H1.out)).trans H1.out)
    have Hr9 := hideP ((hS.block _ (lt_of_block Hr.out)).trans Hr.out)
    have HBW9 := hideP (HBW.out.trans (hS.mono (Nat.le_of_lt (lt_of_block H0.out))))
    have oB7 : B2 < B7 := by have := lt_of_block Hr.out; omega
    clear hS HG HBW H0 H1 Hr lB7
    have HG := HG9
    clear HG9
    have HBW := HBW9
    clear HBW9
    have H0 := H09
    clear H09
    have H1 := H19
    clear H19
    have Hr := Hr9
    clear Hr9
    have HB7 := hideP hB7
    clear hB7
    as_aux_lemma =>
      refine wp_seqH (fun K1 HK1 => ?_)
      refine region_late [18] (fun V => Below x9.heap.size x9 V) (by kernel_rfl) (Below.refl _ _).drew (fun hS => ?_)
      refine anyZ_take (i := 0) (g := 12) (v := ?_) rfl (by kernel_rfl) (by kernel_rfl) (by kernel_rfl) (by kernel_rfl) (by kernel_rfl) (fun _ _ _ h => h) (Or.inl ⟨by kernel_rfl, ?_⟩) hS ?_
      rotate_left
      · intro V hV
        go_simp
        (try with_reducible rfl)
      simp only [put_list, List.set_cons_succ, List.set_cons_zero]
      refine anyZ_take (i := 1) (g := 12) (v := ?_) rfl (by kernel_rfl) (by kernel_rfl) (by kernel_rfl) (by kernel_rfl) (by kernel_rfl) (fun _ _ _ h => h) (Or.inl ⟨by kernel_rfl, ?_⟩) hS ?_
      rotate_left
      · intro V hV
        go_simp
        (try with_reducible rfl)
      simp only [put_list, List.set_cons_succ, List.set_cons_zero]
      refine anyZ_take (i := 2) (g := 12) (v := .agg (ev m (a))) rfl (by kernel_rfl) (by kernel_rfl) (by kernel_rfl) (by kernel_rfl) (by kernel_rfl) (fun _ _ _ h => h) (yields_loadC (by kernel_rfl) 32 _ rfl (B1) (0) rfl (ev m (a)) _ (fun V hV => pl_x ((hV.block _ (lt_of_block H1.out)).trans H1.out)) underE rfl (infoE (ev_size _ _))) hS ?_
      simp only [put_list, List.set_cons_succ, List.set_cons_zero]
      refine anyZ_take (i := 3) (g := 12) (v := .agg (ev m (kmul m (z) (z)))) rfl (by kernel_rfl) (by kernel_rfl) (by kernel_rfl) (by kernel_rfl) (by kernel_rfl) (fun _ _ _ h => h) (yields_loadC (by kernel_rfl) 32 _ rfl (B7) (0) rfl (ev m (kmul m (z) (z))) _ (fun V hV => rangeOf ((hV.block _ (lt_of_block HB7.out)).trans HB7.out)) underE rfl (infoE (ev_size _ _))) hS ?_
      simp only [put_list, List.set_cons_succ, List.set_cons_zero]
      refine anyZ_take (i := 5) (g := 12) (v := ?_) rfl (by kernel_rfl) (by kernel_rfl) (by kernel_rfl) (by kernel_rfl) (by kernel_rfl) (fun _ _ _ h => h) (Or.inl ⟨by kernel_rfl, ?_⟩) hS ?_
      rotate_left
      · intro V hV
        go_simp
        (try with_reducible rfl)
      simp only [put_list, List.set_cons_succ, List.set_cons_zero]
      refine anyZ_take (i := 6) (g := 12) (v := ?_) rfl (by kernel_rfl) (by kernel_rfl) (by kernel_rfl) (by kernel_rfl) (by kernel_rfl) (fun _ _ _ h => h) (Or.inl ⟨by kernel_rfl, ?_⟩) hS ?_
      rotate_left
      · intro V hV
        go_simp
        (try with_reducible rfl)
      simp only [put_list, List.set_cons_succ, List.set_cons_zero]
      refine anyZ_take (i := 7) (g := 12) (v := .agg (ev m (c))) rfl (by kernel_rfl) (by kernel_rfl) (by kernel_rfl) (by kernel_rfl) (by kernel_rfl) (fun _ _ _ h => h) (yields_loadC (by kernel_rfl) 32 _ rfl (B1) (4) rfl (ev m (c)) _ (fun V hV => pl_y ((hV.block _ (lt_of_block H1.out)).trans H1.out)) underE rfl (infoE (ev_size _ _))) hS ?_
      simp only [put_list, List.set_cons_succ, List.set_cons_zero]
      refine anyZ_take (i := 8) (g := 12) (v := ?_) rfl (by kernel_rfl) (by kernel_rfl) (by kernel_rfl) (by kernel_rfl) (by kernel_rfl) (fun _ _ _ h => h) (Or.inl ⟨by kernel_rfl, ?_⟩) hS ?_
      rotate_left
      · intro V hV
        go_simp
        (try with_reducible rfl)
      simp only [put_list, List.set_cons_succ, List.set_cons_zero]
      refine anyZ_take (i := 9) (g := 12) (v := .agg (ev m (kmul m (z) (z)))) rfl (by kernel_rfl) (by kernel_rfl) (by kernel_rfl) (by kernel_rfl) (by kernel_rfl) (fun _ _ _ h => h) (yields_loadC (by kernel_rfl) 32 _ rfl (B7) (0) rfl (ev m (kmul m (z) (z))) _ (fun V hV => rangeOf ((hV.block _ (lt_of_block HB7.out)).trans HB7.out)) underE rfl (infoE (ev_size _ _))) hS ?_
      simp only [put_list, List.set_cons_succ, List.set_cons_zero]
      refine anyZ_take (i := 10) (g := 12) (v := ?_) rfl (by kernel_rfl) (by kernel_rfl) (by kernel_rfl) (by kernel_rfl) (by kernel_rfl) (fun _ _ _ h => h) (Or.inl ⟨by kernel_rfl, ?_⟩) hS ?_
      rotate_left
      · intro V hV
        go_simp
        (try with_reducible rfl)
      simp only [put_list, List.set_cons_succ, List.set_cons_zero]
      refine anyZ_take (i := 11) (g := 12) (v := .agg (ev m (z))) rfl (by kernel_rfl) (by kernel_rfl) (by kernel_rfl) (by kernel_rfl) (by kernel_rfl) (fun _ _ _ h => h) (yields_loadC (by kernel_rfl) 32 _ rfl (N) (8) rfl (ev m (z)) _ (fun V hV => sc_z ((hV.block _ (lt_of_block H0.out)).trans H0.out)) underE rfl (infoE (ev_size _ _))) hS ?_
      simp only [put_list, List.set_cons_succ, List.set_cons_zero]
      refine anyZ_take (i := 13) (g := 12) (v := ?_) rfl (by kernel_rfl) (by kernel_rfl) (by kernel_rfl) (by kernel_rfl) (by kernel_rfl) (fun _ _ _ h => h) (Or.inl ⟨by kernel_rfl, ?_⟩) hS ?_
      rotate_left
      · intro V hV
        go_simp
        (try with_reducible rfl)
      simp only [put_list, List.set_cons_succ, List.set_cons_zero]
      refine anyZ_take (i := 14) (g := 12) (v := .func (.method "Mul") #[ifv p] #[]) rfl (by kernel_rfl) (by kernel_rfl) (by kernel_rfl) (by kernel_rfl) (by kernel_rfl) (fun _ _ _ h => h) (yields_nilm (by kernel_rfl) (.tmp 51) rfl rfl (na_Mul p)) hS ?_
      simp only [put_list, List.set_cons_succ, List.set_cons_zero]
      refine anyZ_take (i := 15) (g := 12) (v := ?_) rfl (by kernel_rfl) (by kernel_rfl) (by kernel_rfl) (by kernel_rfl) (by kernel_rfl) (fun _ _ _ h => h) (Or.inl ⟨by kernel_rfl, ?_⟩) hS ?_
      rotate_left
      · intro V hV
        go_simp
        (try with_reducible rfl)
      simp only [put_list, List.set_cons_succ, List.set_cons_zero]
      refine anyZ_one (i := 4) (by kernel_rfl) rfl (fun K hK => ?_)
      refine ite_wp (by kernel_rfl) ?_
      refine wp_invoke2D (.tmp 38) (.tmp 40) (.tmp 41) "Mul" _ 42 rfl rfl rfl rfl rfl (cm_Mul p _ _ _) (c_Mul ((HG.out.below hS).ok) (a) (kmul m (z) (z))) ?_
      intro x10 hbc
      have hS9 := hS.trans (hbc.mono hS.size)
      refine hK.out _ _ (fun _ => hS9) ?_
      clear hK K hbc hS
      have hS := hS9
      clear hS9
      simp only [List.set_cons_succ, List.set_cons_zero]
      refine anyZ_one (i := 12) (by kernel_rfl) rfl (fun K hK => ?_)
      refine ite_wp (by kernel_rfl) ?_
      refine wp_invoke2D (.tmp 46) (.tmp 47) (.tmp 49) "Mul" _ 50 rfl rfl rfl rfl rfl (cm_Mul p _ _ _) (c_Mul ((HG.out.below hS).ok) (kmul m (z) (z)) (z)) ?_
      intro x11 hbc
      have hS9 := hS.trans (hbc.mono hS.size)
      refine hK.out _ _ (fun _ => hS9) ?_
      clear hK K hbc hS
      have hS := hS9
      clear hS9
      simp only [List.set_cons_succ, List.set_cons_zero]
      refine anyZ_one (i := 16) (by kernel_rfl) rfl (fun K hK => ?_)
      refine ite_wp (by kernel_rfl) ?_
      refine wp_invoke2D (.tmp 53) (.tmp 45) (.tmp 50) "Mul" _ 54 rfl rfl rfl rfl rfl (cm_Mul p _ _ _) (c_Mul ((HG.out.below hS).ok) (c) (kmul m (kmul m (z) (z)) (z))) ?_
      intro x12 hbc
      have hS9 := hS.trans (hbc.mono hS.size)
      refine hK.out _ _ (fun _ => hS9) ?_
      clear hK K hbc hS
      have hS := hS9
      clear hS9
      simp only [List.set_cons_succ, List.set_cons_zero]
      refine anyZ_take (i := 17) (g := 12) (v := .agg (pl m (kmul m (a) (kmul m (z) (z))) (kmul m (c) (kmul m (kmul m (z) (z)) (z))))) rfl (by kernel_rfl) (by kernel_rfl) (by kernel_rfl) (by kernel_rfl) (by kernel_rfl) (fun _ _ _ h => h) (yields_build2 (by kernel_rfl) 262 (.tmp 42) (.tmp 54) rfl rfl rfl (bd_pl _ _ _)) hS ?_
      simp only [put_list, List.set_cons_succ, List.set_cons_zero]
      have hQ := (KQ.start H1.out (pl_size _ _ _)).call hS
      refine anyZ_one (i := 18) (by kernel_rfl) rfl (fun K hK => ?_)
      refine ite_wp (by kernel_rfl) ?_
      refine wp_store_midN 262 (.tmp 5) (.tmp 55) rfl rfl (B1) 0 (pl m (kmul m (a) (kmul m (z) (z))) (kmul m (c) (kmul m (kmul m (z) (z)) (z)))) rfl rfl (hQ.there (pl_size _ _ _)) (infoPl (pl_size _ _ _)) (pl_one _ _ _) ?_
      have g1 := hQ.put (C := pl m (kmul m (a) (kmul m (z) (z))) (kmul m (c) (kmul m (kmul m (z) (z)) (z)))) (pl_size _ _ _)
      have hS9 := hQ.store (C := pl m (kmul m (a) (kmul m (z) (z))) (kmul m (c) (kmul m (kmul m (z) (z)) (z)))) (pl_size _ _ _)
      clear hS hQ
      have hS := hS9
      clear hS9
      generalize World.setCells _ (B1) 0 (pl m (kmul m (a) (kmul m (z) (z))) (kmul m (c) (kmul m (kmul m (z) (z)) (z)))).toList = x13 at g1 hS ⊢
      refine hK.out _ _ (fun h => absurd (by decide) h) ?_
      clear hK K
      refine anyZ_done (by kernel_rfl) ?_ _
      (try simp only [put_none])
      refine HK1.out _ _ ?_
      clear HK1 K1
      have HG9 := hideP (HG.out.kq hS (by omega) (by omega))
      have H09 := hideP (hS.box H0.out (by omega))
      have Hr9 := hideP (hS.box Hr.out (by omega))
      have HB79 := hideP (hS.box HB7.out (by omega))
      have HBW9 := hideP (HBW.out.trans (hS.below.mono (by omega)))
      have H19 := hideP g1
      clear hS g1 HG HBW H0 H1 Hr HB7
      have HG := HG9
      clear HG9
      have HBW := HBW9
      clear HBW9
      have H0 := H09
      clear H09
      have H1 := H19
      clear H19
      have Hr := Hr9
      clear Hr9
      have HB7 := HB79
      clear HB79
      as_aux_lemma =>
        refine wp_seqH (fun K2 HK2 => ?_)
        refine wp_seqH (fun K1 HK1 => ?_)
        refine wp_region_list ?_
        have hS := Below.refl x13.heap.size x13
        refine wpList_load_midD rfl 262 (.tmp 5) 56 rfl rfl (B1) (0) (pl m (kmul m (a) (kmul m (z) (z))) (kmul m (c) (kmul m (kmul m (z) (z)) (z)))) rfl _ (rangeOf ((hS.block _ (lt_of_block H1.out)).trans H1.out)) underPl rfl (infoPl (pl_size _ _ _)) ?_
        simp only [List.set_cons_succ, List.set_cons_zero]
        refine wpList_oper rfl (fun K hK => ?_)
        go_simp
        refine hK _ _ ?_
        clear hK K
        refine wpList_load_midD rfl 262 (.tmp 57) 58 rfl rfl (N) (0) (pl m (x) (y)) rfl _ (sc_pl ((hS.block _ (lt_of_block H0.out)).trans H0.out)) underPl rfl (infoPl (pl_size _ _ _)) ?_
        simp only [List.set_cons_succ, List.set_cons_zero]
        refine wpList_oper rfl (fun K hK => ?_)
        refine wp_eqlD 262 262 (.tmp 56) (.tmp 58) 59 rfl rfl rfl rfl gqPl ((eqPl HG.out.ok (kmul m (a) (kmul m (z) (z))) (kmul m (c) (kmul m (kmul m (z) (z)) (z))) (x) (y) _).trans (by rw [decide_eq_true hq.1, decide_eq_true hq.2, Bool.and_self])) ?_
        refine hK _ _ ?_
        clear hK K
        simp only [List.set_cons_succ, List.set_cons_zero]
        refine wpList_nil ?_
        refine HK1.out _ _ ?_
        clear HK1 K1
        clear hS
        refine wp_cond_true rfl ?_
        refine wp_seqH (fun K1 HK1 => ?_)
        refine wp_region_list ?_
        have hS := Below.refl x13.heap.size x13
        refine wpList_oper rfl (fun K hK => ?_)
        go_simp
        refine hK _ _ ?_
        clear hK K
        refine wpList_load_midD rfl 264 (.tmp 4) 61 rfl rfl (N) (0) (sc m (x) (y) (z)) rfl _ (rangeOf ((hS.block _ (lt_of_block H0.out)).trans H0.out)) underSc rfl (infoSc (sc_size _ _ _ _)) ?_
        simp only [List.set_cons_succ, List.set_cons_zero]
        refine wpList_oper rfl (fun K hK => ?_)
        refine wp_call2D (.tmp 60) (.tmp 61) _ 62 rfl rfl rfl rfl (enters_of Tryz.func230 (by kernel_rfl) rfl) (double_any (HG.out.below hS) (x) (y) (z)) ?_
        intro x14 hbc
        refine hK _ _ ?_
        clear hK K
        have hS9 := hS.trans (hbc.mono hS.size)
        clear hS hbc
        have hS := hS9
        clear hS9
        simp only [List.set_cons_succ, List.set_cons_zero]
        have hQ := (KQ.start Hr.out s_B2).call hS
        refine wpList_store_midD rfl 264 (.tmp 6) (.tmp 62) rfl rfl (B2) 0 (sc m (ksub m (kmul m (kadd m (kmul m (x) (x)) (kadd m (kmul m (x) (x)) (kmul m (x) (x)))) (kadd m (kmul m (x) (x)) (kadd m (kmul m (x) (x)) (kmul m (x) (x))))) (kadd m (kadd m (kadd m (kmul m (x) (kmul m (y) (y))) (kmul m (x) (kmul m (y) (y)))) (kadd m (kmul m (x) (kmul m (y) (y))) (kmul m (x) (kmul m (y) (y))))) (kadd m (kadd m (kmul m (x) (kmul m (y) (y))) (kmul m (x) (kmul m (y) (y)))) (kadd m (kmul m (x) (kmul m (y) (y))) (kmul m (x) (kmul m (y) (y))))))) (ksub m (kmul m (kadd m (kmul m (x) (x)) (kadd m (kmul m (x) (x)) (kmul m (x) (x)))) (ksub m (kadd m (kadd m (kmul m (x) (kmul m (y) (y))) (kmul m (x) (kmul m (y) (y)))) (kadd m (kmul m (x) (kmul m (y) (y))) (kmul m (x) (kmul m (y) (y))))) (ksub m (kmul m (kadd m (kmul m (x) (x)) (kadd m (kmul m (x) (x)) (kmul m (x) (x)))) (kadd m (kmul m (x) (x)) (kadd m (kmul m (x) (x)) (kmul m (x) (x))))) (kadd m (kadd m (kadd m (kmul m (x) (kmul m (y) (y))) (kmul m (x) (kmul m (y) (y)))) (kadd m (kmul m (x) (kmul m (y) (y))) (kmul m (x) (kmul m (y) (y))))) (kadd m (kadd m (kmul m (x) (kmul m (y) (y))) (kmul m (x) (kmul m (y) (y)))) (kadd m (kmul m (x) (kmul m (y) (y))) (kmul m (x) (kmul m (y) (y))))))))) (kadd m (kadd m (kadd m (kmul m (kmul m (y) (y)) (kmul m (y) (y))) (kmul m (kmul m (y) (y)) (kmul m (y) (y)))) (kadd m (kmul m (kmul m (y) (y)) (kmul m (y) (y))) (kmul m (kmul m (y) (y)) (kmul m (y) (y))))) (kadd m (kadd m (kmul m (kmul m (y) (y)) (kmul m (y) (y))) (kmul m (kmul m (y) (y)) (kmul m (y) (y)))) (kadd m (kmul m (kmul m (y) (y)) (kmul m (y) (y))) (kmul m (kmul m (y) (y)) (kmul m (y) (y))))))) (kadd m (kmul m (y) (z)) (kmul m (y) (z)))) rfl rfl (hQ.there (sc_size _ _ _ _)) (infoSc (sc_size _ _ _ _)) (sc_one _ _ _ _) ?_
        have g1 := hQ.put (C := sc m (ksub m (kmul m (kadd m (kmul m (x) (x)) (kadd m (kmul m (x) (x)) (kmul m (x) (x)))) (kadd m (kmul m (x) (x)) (kadd m (kmul m (x) (x)) (kmul m (x) (x))))) (kadd m (kadd m (kadd m (kmul m (x) (kmul m (y) (y))) (kmul m (x) (kmul m (y) (y)))) (kadd m (kmul m (x) (kmul m (y) (y))) (kmul m (x) (kmul m (y) (y))))) (kadd m (kadd m (kmul m (x) (kmul m (y) (y))) (kmul m (x) (kmul m (y) (y)))) (kadd m (kmul m (x) (kmul m (y) (y))) (kmul m (x) (kmul m (y) (y))))))) (ksub m (kmul m (kadd m (kmul m (x) (x)) (kadd m (kmul m (x) (x)) (kmul m (x) (x)))) (ksub m (kadd m (kadd m (kmul m (x) (kmul m (y) (y))) (kmul m (x) (kmul m (y) (y)))) (kadd m (kmul m (x) (kmul m (y) (y))) (kmul m (x) (kmul m (y) (y))))) (ksub m (kmul m (kadd m (kmul m (x) (x)) (kadd m (kmul m (x) (x)) (kmul m (x) (x)))) (kadd m (kmul m (x) (x)) (kadd m (kmul m (x) (x)) (kmul m (x) (x))))) (kadd m (kadd m (kadd m (kmul m (x) (kmul m (y) (y))) (kmul m (x) (kmul m (y) (y)))) (kadd m (kmul m (x) (kmul m (y) (y))) (kmul m (x) (kmul m (y) (y))))) (kadd m (kadd m (kmul m (x) (kmul m (y) (y))) (kmul m (x) (kmul m (y) (y)))) (kadd m (kmul m (x) (kmul m (y) (y))) (kmul m (x) (kmul m (y) (y))))))))) (kadd m (kadd m (kadd m (kmul m (kmul m (y) (y)) (kmul m (y) (y))) (kmul m (kmul m (y) (y)) (kmul m (y) (y)))) (kadd m (kmul m (kmul m (y) (y)) (kmul m (y) (y))) (kmul m (kmul m (y) (y)) (kmul m (y) (y))))) (kadd m (kadd m (kmul m (kmul m (y) (y)) (kmul m (y) (y))) (kmul m (kmul m (y) (y)) (kmul m (y) (y)))) (kadd m (kmul m (kmul m (y) (y)) (kmul m (y) (y))) (kmul m (kmul m (y) (y)) (kmul m (y) (y))))))) (kadd m (kmul m (y) (z)) (kmul m (y) (z)))) (sc_size _ _ _ _)
        have hS9 := hQ.store (C := sc m (ksub m (kmul m (kadd m (kmul m (x) (x)) (kadd m (kmul m (x) (x)) (kmul m (x) (x)))) (kadd m (kmul m (x) (x)) (kadd m (kmul m (x) (x)) (kmul m (x) (x))))) (kadd m (kadd m (kadd m (kmul m (x) (kmul m (y) (y))) (kmul m (x) (kmul m (y) (y)))) (kadd m (kmul m (x) (kmul m (y) (y))) (kmul m (x) (kmul m (y) (y))))) (kadd m (kadd m (kmul m (x) (kmul m (y) (y))) (kmul m (x) (kmul m (y) (y)))) (kadd m (kmul m (x) (kmul m (y) (y))) (kmul m (x) (kmul m (y) (y))))))) (ksub m (kmul m (kadd m (kmul m (x) (x)) (kadd m (kmul m (x) (x)) (kmul m (x) (x)))) (ksub m (kadd m (kadd m (kmul m (x) (kmul m (y) (y))) (kmul m (x) (kmul m (y) (y)))) (kadd m (kmul m (x) (kmul m (y) (y))) (kmul m (x) (kmul m (y) (y))))) (ksub m (kmul m (kadd m (kmul m (x) (x)) (kadd m (kmul m (x) (x)) (kmul m (x) (x)))) (kadd m (kmul m (x) (x)) (kadd m (kmul m (x) (x)) (kmul m (x) (x))))) (kadd m (kadd m (kadd m (kmul m (x) (kmul m (y) (y))) (kmul m (x) (kmul m (y) (y)))) (kadd m (kmul m (x) (kmul m (y) (y))) (kmul m (x) (kmul m (y) (y))))) (kadd m (kadd m (kmul m (x) (kmul m (y) (y))) (kmul m (x) (kmul m (y) (y)))) (kadd m (kmul m (x) (kmul m (y) (y))) (kmul m (x) (kmul m (y) (y))))))))) (kadd m (kadd m (kadd m (kmul m (kmul m (y) (y)) (kmul m (y) (y))) (kmul m (kmul m (y) (y)) (kmul m (y) (y)))) (kadd m (kmul m (kmul m (y) (y)) (kmul m (y) (y))) (kmul m (kmul m (y) (y)) (kmul m (y) (y))))) (kadd m (kadd m (kmul m (kmul m (y) (y)) (kmul m (y) (y))) (kmul m (kmul m (y) (y)) (kmul m (y) (y)))) (kadd m (kmul m (kmul m (y) (y)) (kmul m (y) (y))) (kmul m (kmul m (y) (y)) (kmul m (y) (y))))))) (kadd m (kmul m (y) (z)) (kmul m (y) (z)))) (sc_size _ _ _ _)
        clear hS hQ
        have hS := hS9
        clear hS9
        generalize World.setCells _ (B2) 0 (sc m (ksub m (kmul m (kadd m (kmul m (x) (x)) (kadd m (kmul m (x) (x)) (kmul m (x) (x)))) (kadd m (kmul m (x) (x)) (kadd m (kmul m (x) (x)) (kmul m (x) (x))))) (kadd m (kadd m (kadd m (kmul m (x) (kmul m (y) (y))) (kmul m (x) (kmul m (y) (y)))) (kadd m (kmul m (x) (kmul m (y) (y))) (kmul m (x) (kmul m (y) (y))))) (kadd m (kadd m (kmul m (x) (kmul m (y) (y))) (kmul m (x) (kmul m (y) (y)))) (kadd m (kmul m (x) (kmul m (y) (y))) (kmul m (x) (kmul m (y) (y))))))) (ksub m (kmul m (kadd m (kmul m (x) (x)) (kadd m (kmul m (x) (x)) (kmul m (x) (x)))) (ksub m (kadd m (kadd m (kmul m (x) (kmul m (y) (y))) (kmul m (x) (kmul m (y) (y)))) (kadd m (kmul m (x) (kmul m (y) (y))) (kmul m (x) (kmul m (y) (y))))) (ksub m (kmul m (kadd m (kmul m (x) (x)) (kadd m (kmul m (x) (x)) (kmul m (x) (x)))) (kadd m (kmul m (x) (x)) (kadd m (kmul m (x) (x)) (kmul m (x) (x))))) (kadd m (kadd m (kadd m (kmul m (x) (kmul m (y) (y))) (kmul m (x) (kmul m (y) (y)))) (kadd m (kmul m (x) (kmul m (y) (y))) (kmul m (x) (kmul m (y) (y))))) (kadd m (kadd m (kmul m (x) (kmul m (y) (y))) (kmul m (x) (kmul m (y) (y)))) (kadd m (kmul m (x) (kmul m (y) (y))) (kmul m (x) (kmul m (y) (y))))))))) (kadd m (kadd m (kadd m (kmul m (kmul m (y) (y)) (kmul m (y) (y))) (kmul m (kmul m (y) (y)) (kmul m (y) (y)))) (kadd m (kmul m (kmul m (y) (y)) (kmul m (y) (y))) (kmul m (kmul m (y) (y)) (kmul m (y) (y))))) (kadd m (kadd m (kmul m (kmul m (y) (y)) (kmul m (y) (y))) (kmul m (kmul m (y) (y)) (kmul m (y) (y)))) (kadd m (kmul m (kmul m (y) (y)) (kmul m (y) (y))) (kmul m (kmul m (y) (y)) (kmul m (y) (y))))))) (kadd m (kmul m (y) (z)) (kmul m (y) (z)))).toList = x15 at g1 hS ⊢
        refine wpList_nil ?_
        refine HK1.out _ _ ?_
        clear HK1 K1
        refine wp_ret ?_
        refine then_ret ?_
        exact bodyPost_ret_by (results_cell rfl rfl (loadC _ B2 0 264 (sc m (ksub m (kmul m (kadd m (kmul m (x) (x)) (kadd m (kmul m (x) (x)) (kmul m (x) (x)))) (kadd m (kmul m (x) (x)) (kadd m (kmul m (x) (x)) (kmul m (x) (x))))) (kadd m (kadd m (kadd m (kmul m (x) (kmul m (y) (y))) (kmul m (x) (kmul m (y) (y)))) (kadd m (kmul m (x) (kmul m (y) (y))) (kmul m (x) (kmul m (y) (y))))) (kadd m (kadd m (kmul m (x) (kmul m (y) (y))) (kmul m (x) (kmul m (y) (y)))) (kadd m (kmul m (x) (kmul m (y) (y))) (kmul m (x) (kmul m (y) (y))))))) (ksub m (kmul m (kadd m (kmul m (x) (x)) (kadd m (kmul m (x) (x)) (kmul m (x) (x)))) (ksub m (kadd m (kadd m (kmul m (x) (kmul m (y) (y))) (kmul m (x) (kmul m (y) (y)))) (kadd m (kmul m (x) (kmul m (y) (y))) (kmul m (x) (kmul m (y) (y))))) (ksub m (kmul m (kadd m (kmul m (x) (x)) (kadd m (kmul m (x) (x)) (kmul m (x) (x)))) (kadd m (kmul m (x) (x)) (kadd m (kmul m (x) (x)) (kmul m (x) (x))))) (kadd m (kadd m (kadd m (kmul m (x) (kmul m (y) (y))) (kmul m (x) (kmul m (y) (y)))) (kadd m (kmul m (x) (kmul m (y) (y))) (kmul m (x) (kmul m (y) (y))))) (kadd m (kadd m (kmul m (x) (kmul m (y) (y))) (kmul m (x) (kmul m (y) (y)))) (kadd m (kmul m (x) (kmul m (y) (y))) (kmul m (x) (kmul m (y) (y))))))))) (kadd m (kadd m (kadd m (kmul m (kmul m (y) (y)) (kmul m (y) (y))) (kmul m (kmul m (y) (y)) (kmul m (y) (y)))) (kadd m (kmul m (kmul m (y) (y)) (kmul m (y) (y))) (kmul m (kmul m (y) (y)) (kmul m (y) (y))))) (kadd m (kadd m (kmul m (kmul m (y) (y)) (kmul m (y) (y))) (kmul m (kmul m (y) (y)) (kmul m (y) (y)))) (kadd m (kmul m (kmul m (y) (y)) (kmul m (y) (y))) (kmul m (kmul m (y) (y)) (kmul m (y) (y))))))) (kadd m (kmul m (y) (z)) (kmul m (y) (z)))) _ (rangeOf g1) underSc rfl (infoSc (sc_size _ _ _ _)))) rfl ⟨rfl, HBW.out.trans (hS.below.mono (by omega))⟩

end Go.Proofs.YtppijhcfodccfaaGreat.P4
