/-
  Bytes are numbers and numbers are bytes, of both widths; numbers are compared as numbers.
-/
import Derived.Test.YtiekipkmfopdoaaBigu4
import Derived.Test.YtiekipkmfopdoaaBigu6
import Derived.Test.YtiekipkmfopdoaaRing6
import Derived.Test.YtiekipkmfopdoaaAwake
namespace Go.Proofs.Ytiekipkmfopdoaa
open Go.RowKit Go.Shelf

set_option maxHeartbeats 8000000 in
set_option maxRecDepth 100000 in
theorem fieldBytes_any (X Y U Z : Nat) (hX : X < W4.R) (hY : Y < W4.R) (hU : U < W6.R) (hZ : Z < W6.R) (w : World) {ao : Option Addr} {n c : Nat} {bs : Nat → Nat} (hB : BS w ao n c bs) (hn : n ≤ 140737488355328) :
    Calls Try.prog 6 #[.slice ao n c, W4.wv X, W4.wv Y, W6.wv U, W6.wv Z] w fun r w' => r = .returned (.bool true) ∧ Below w.heap.size w w' := by
  have HAW := hideP W4.awake_any
  have HR : Hid (X < W4.R ∧ Y < W4.R ∧ U < W6.R ∧ Z < W6.R) := ⟨hX, hY, hU, hZ⟩
  have HBS := hideP hB
  have HN := hideP hn
  have HV4 := hideP (W4.bvw_lt hB.lt n)
  have HV6 := hideP (W6.bvw_lt hB.lt n)
  clear hX hY hU hZ hB hn
  unfold W4.wv W6.wv W4.cs W6.cs
  go_enter Try.func6, Try.ntmps6
  go_wp2_with fail
  refine at_world_q (fun W0 hW0 => ?_)
  have h6 : W0.heap[w.heap.size]? = some (.cells (W4.cs (limb X)) 24 (0, 0)) := by
    rw [hW0]
    exact (heap_old _ _ (by simp <;> omega)).trans ((heap_old _ _ (by simp <;> omega)).trans ((heap_old _ _ (by simp)).trans (heap_new _ _)))
  have h7 : W0.heap[w.heap.size + 1]? = some (.cells (W4.cs (limb Y)) 24 (0, 0)) := by
    rw [hW0]
    exact (heap_old _ _ (by simp <;> omega)).trans ((heap_old _ _ (by simp)).trans (heap_new1 _ _ _))
  have h8 : W0.heap[w.heap.size + 1 + 1]? = some (.cells (W6.cs (limb U)) 29 (0, 0)) := by
    rw [hW0]
    exact (heap_old _ _ (by simp)).trans (heap_new2 _ _ _ _)
  have h9 : W0.heap[w.heap.size + 1 + 1 + 1]? = some (.cells (W6.cs (limb Z)) 29 (0, 0)) := by
    rw [hW0]
    exact heap_new3 _ _ _ _ _
  have HBW : Hid (Below w.heap.size w W0) := by
    show Below _ _ _
    rw [hW0]
    repeat first | exact Below.refl _ _ | (refine Below.alloc ?_ (by simp <;> omega) _)
  have H6 := hideP h6
  have H7 := hideP h7
  have H8 := hideP h8
  have H9 := hideP h9
  clear hW0 h6 h7 h8 h9
  refine (HAW.out _).mono ?_
  rintro r w1 ⟨rfl, hb⟩
  replace H6 := hideP ((hb.block _ (lt_of_block H6.out)).trans H6.out)
  replace H7 := hideP ((hb.block _ (lt_of_block H7.out)).trans H7.out)
  replace H8 := hideP ((hb.block _ (lt_of_block H8.out)).trans H8.out)
  replace H9 := hideP ((hb.block _ (lt_of_block H9.out)).trans H9.out)
  replace HBW := hideP (HBW.out.trans (hb.mono HBW.out.size))
  replace HBS := hideP (HBS.out.moved HBW.out)
  clear hb HAW
  obtain ⟨ap4, cp4, a4, hrun, hBp, hb⟩ := append_bytes 62 HN.out HBS.out
  have HBP := hideP hBp
  clear hBp
  replace H6 := hideP ((hb.block _ (lt_of_block H6.out)).trans H6.out)
  replace H7 := hideP ((hb.block _ (lt_of_block H7.out)).trans H7.out)
  replace H8 := hideP ((hb.block _ (lt_of_block H8.out)).trans H8.out)
  replace H9 := hideP ((hb.block _ (lt_of_block H9.out)).trans H9.out)
  replace HBS := hideP (HBS.out.moved hb)
  replace HBW := hideP (HBW.out.trans (hb.mono HBW.out.size))
  clear hb
  go_wp2_with (refine wpList_append_run rfl _ _ 62 rfl rfl rfl rfl hrun ?_)
  clear hrun
  refine (W4.big_all HN.out _ HBP.out).mono ?_
  rintro r b4 ⟨rfl, hb⟩
  replace H6 := hideP ((hb.block _ (lt_of_block H6.out)).trans H6.out)
  replace H7 := hideP ((hb.block _ (lt_of_block H7.out)).trans H7.out)
  replace H8 := hideP ((hb.block _ (lt_of_block H8.out)).trans H8.out)
  replace H9 := hideP ((hb.block _ (lt_of_block H9.out)).trans H9.out)
  replace HBS := hideP (HBS.out.moved hb)
  replace HBW := hideP (HBW.out.trans (hb.mono HBW.out.size))
  clear hb HBP
  have hK0 := heap_new b4 (.cells (W4.cs (fun _ => 0)) 24 (0, 0))
  have hbn := (Below.refl b4.heap.size b4).alloc (Nat.le_refl _) (.cells (W4.cs (fun _ => 0)) 24 (0, 0))
  have g1 := blk_sets (W4.cs (limb (W4.bvw bs n))).toList 0 hK0
  rw [W4.putAll_cs] at g1
  have hB1 := But.sets (W4.cs (limb (W4.bvw bs n))).toList 0 (But.refl b4.heap.size (b4.alloc (.cells (W4.cs (fun _ => 0)) 24 (0, 0))))
  have hb := hbn.trans hB1.below
  clear hbn hB1
  rw [← W4.zero_lit] at hK0 g1 hb
  rename_i K9 hK9
  refine hK9 _ _ ?_
  clear hK9 K9
  iterate 4 (refine wpList_plain rfl (fun K hK => ?_); go_simp; refine hK _ _ ?_; clear hK K)
  refine wpList_store_mid rfl 24 _ _ rfl b4.heap.size 0 (W4.cs (limb (W4.bvw bs n))) rfl rfl (by have h1 := thereOf hK0; exact h1) (W4.info _) (W4.one _) ?_
  clear hK0
  have hlb : b4.heap.size ≤ b4.heap.size := Nat.le_refl _
  generalize (b4.alloc (.cells _ 24 (0, 0))).setCells b4.heap.size 0 (W4.cs (limb (W4.bvw bs n))).toList = d4 at g1 hb ⊢
  have HK4 := hideP g1
  replace H6 := hideP ((hb.block _ (lt_of_block H6.out)).trans H6.out)
  replace H7 := hideP ((hb.block _ (lt_of_block H7.out)).trans H7.out)
  replace H8 := hideP ((hb.block _ (lt_of_block H8.out)).trans H8.out)
  replace H9 := hideP ((hb.block _ (lt_of_block H9.out)).trans H9.out)
  replace HBS := hideP (HBS.out.moved hb)
  replace HBW := hideP (HBW.out.trans (hb.mono HBW.out.size))
  clear hb g1
  generalize b4.heap.size = B4 at HK4 ⊢
  clear hlb
  go_wp2_with fail
  refine (W4.rbig_all HN.out _ HBS.out).mono ?_
  rintro r e4 ⟨⟨g4, rfl, hg⟩, hb⟩
  replace H6 := hideP ((hb.block _ (lt_of_block H6.out)).trans H6.out)
  replace H7 := hideP ((hb.block _ (lt_of_block H7.out)).trans H7.out)
  replace H8 := hideP ((hb.block _ (lt_of_block H8.out)).trans H8.out)
  replace H9 := hideP ((hb.block _ (lt_of_block H9.out)).trans H9.out)
  replace HK4 := hideP ((hb.block _ (lt_of_block HK4.out)).trans HK4.out)
  replace HBS := hideP (HBS.out.moved hb)
  replace HBW := hideP (HBW.out.trans (hb.mono HBW.out.size))
  have HG4 := hideP hg
  clear hb hg
  go_wp2_with fail
  refine wp_region_heldS (S := fun V => Below e4.heap.size e4 V) (by kernel_rfl) ((Below.refl _ _).drew) (fun hS => ?_)
  refine wpAnyH_takeL (i := 0) (v := .agg (W4.cs (limb (W4.bvw bs n)))) rfl (by kernel_rfl) (by kernel_rfl) (by kernel_rfl) (fun _ _ _ h => h) (yieldsIf_load_mid (by kernel_rfl) 24 _ rfl (B4) (0) rfl (W4.cs (limb (W4.bvw bs n))).toList _ (fun V hV => rangeOf ((hV.block _ (lt_of_block HK4.out)).trans HK4.out)) W4.under rfl (W4.info _)) hS ?_
  simp only [put_list, List.set_cons_succ, List.set_cons_zero]
  refine wpAnyH_takeL (i := 1) (v := ?_) rfl (by kernel_rfl) (by kernel_rfl) (by kernel_rfl) (fun _ _ _ h => h) (Or.inl ⟨by kernel_rfl, ?_⟩) hS ?_
  rotate_left
  · intro V hV
    go_simp
    (try with_reducible rfl)
  simp only [put_list, List.set_cons_succ, List.set_cons_zero]
  refine wpAnyH_ready (rs := [2]) (by kernel_rfl) (by simp) (AllReadyH.cons rfl (fun K hK => ?_) AllReadyH.nil)
  go_simp
  refine (W4.array_any _ _ _ ((hS.block _ (lt_of_block HG4.out)).trans HG4.out)).mono ?_
  rintro r f4 ⟨rfl, hbc⟩
  refine hK.out _ _ (hS.trans (hbc.mono hS.size)) (fun hS2 => ?_)
  clear hbc hS
  have hS := hS2
  clear hS2
  clear hK K
  refine wpAnyH_takeL (i := 3) (v := .bool false) rfl (by kernel_rfl) (by kernel_rfl) (by kernel_rfl) (fun _ _ _ h => h) (Or.inl ⟨by kernel_rfl, ?_⟩) hS ?_
  · intro V hV
    exact W4.exec_neR rfl rfl V (W4.eq_same HV4.out V)
  simp only [put_list, List.set_cons_succ, List.set_cons_zero]
  refine wpAnyH_takeL (i := 4) (v := ?_) rfl (by kernel_rfl) (by kernel_rfl) (by kernel_rfl) (fun _ _ _ h => h) (Or.inl ⟨by kernel_rfl, ?_⟩) hS ?_
  rotate_left
  · intro V hV
    go_simp
    (try with_reducible rfl)
  simp only [put_list, List.set_cons_succ, List.set_cons_zero]
  refine wpAnyH_takeL (i := 5) (v := ?_) rfl (by kernel_rfl) (by kernel_rfl) (by kernel_rfl) (fun _ _ _ h => h) (Or.inl ⟨by kernel_rfl, ?_⟩) hS ?_
  rotate_left
  · intro V hV
    go_simp
    (try with_reducible rfl)
  simp only [put_list, List.set_cons_succ, List.set_cons_zero]
  refine wpAnyH_takeL (i := 6) (v := ?_) rfl (by kernel_rfl) (by kernel_rfl) (by kernel_rfl) (fun _ _ _ h => h) (Or.inl ⟨by kernel_rfl, ?_⟩) hS ?_
  rotate_left
  · intro V hV
    go_simp
    (try with_reducible rfl)
  simp only [put_list, List.set_cons_succ, List.set_cons_zero]
  refine wpAnyH_takeL (i := 7) (v := ?_) rfl (by kernel_rfl) (by kernel_rfl) (by kernel_rfl) (fun _ _ _ h => h) (Or.inl ⟨by kernel_rfl, ?_⟩) hS ?_
  rotate_left
  · intro V hV
    go_simp
    (try with_reducible rfl)
  simp only [put_list, List.set_cons_succ, List.set_cons_zero]
  refine wpAnyH_takeL (i := 8) (v := ?_) rfl (by kernel_rfl) (by kernel_rfl) (by kernel_rfl) (fun _ _ _ h => h) (Or.inl ⟨by kernel_rfl, ?_⟩) hS ?_
  rotate_left
  · intro V hV
    go_simp
    (try with_reducible rfl)
  simp only [put_list, List.set_cons_succ, List.set_cons_zero]
  refine wpAnyH_done (by kernel_rfl) ?_ _
  (try simp only [put_none])
  have hb := hS
  replace H6 := hideP ((hb.block _ (lt_of_block H6.out)).trans H6.out)
  replace H7 := hideP ((hb.block _ (lt_of_block H7.out)).trans H7.out)
  replace H8 := hideP ((hb.block _ (lt_of_block H8.out)).trans H8.out)
  replace H9 := hideP ((hb.block _ (lt_of_block H9.out)).trans H9.out)
  replace HBS := hideP (HBS.out.moved hb)
  replace HBW := hideP (HBW.out.trans (hb.mono HBW.out.size))
  clear hb hS HG4 HK4
  obtain ⟨ap6, cp6, a6, hrun, hBp, hb⟩ := append_bytes 62 HN.out HBS.out
  have HBP := hideP hBp
  clear hBp
  replace H6 := hideP ((hb.block _ (lt_of_block H6.out)).trans H6.out)
  replace H7 := hideP ((hb.block _ (lt_of_block H7.out)).trans H7.out)
  replace H8 := hideP ((hb.block _ (lt_of_block H8.out)).trans H8.out)
  replace H9 := hideP ((hb.block _ (lt_of_block H9.out)).trans H9.out)
  replace HBS := hideP (HBS.out.moved hb)
  replace HBW := hideP (HBW.out.trans (hb.mono HBW.out.size))
  clear hb
  go_wp2_with (refine wpList_append_run rfl _ _ 62 rfl rfl rfl rfl hrun ?_)
  clear hrun
  refine (W6.big_all HN.out _ HBP.out).mono ?_
  rintro r b6 ⟨rfl, hb⟩
  replace H6 := hideP ((hb.block _ (lt_of_block H6.out)).trans H6.out)
  replace H7 := hideP ((hb.block _ (lt_of_block H7.out)).trans H7.out)
  replace H8 := hideP ((hb.block _ (lt_of_block H8.out)).trans H8.out)
  replace H9 := hideP ((hb.block _ (lt_of_block H9.out)).trans H9.out)
  replace HBS := hideP (HBS.out.moved hb)
  replace HBW := hideP (HBW.out.trans (hb.mono HBW.out.size))
  clear hb HBP
  have hK0 := heap_new b6 (.cells (W6.cs (fun _ => 0)) 29 (0, 0))
  have hbn := (Below.refl b6.heap.size b6).alloc (Nat.le_refl _) (.cells (W6.cs (fun _ => 0)) 29 (0, 0))
  have g1 := blk_sets (W6.cs (limb (W6.bvw bs n))).toList 0 hK0
  rw [W6.putAll_cs] at g1
  have hB1 := But.sets (W6.cs (limb (W6.bvw bs n))).toList 0 (But.refl b6.heap.size (b6.alloc (.cells (W6.cs (fun _ => 0)) 29 (0, 0))))
  have hb := hbn.trans hB1.below
  clear hbn hB1
  rw [← W6.zero_lit] at hK0 g1 hb
  rename_i K9 hK9
  refine hK9 _ _ ?_
  clear hK9 K9
  iterate 4 (refine wpList_plain rfl (fun K hK => ?_); go_simp; refine hK _ _ ?_; clear hK K)
  refine wpList_store_mid rfl 29 _ _ rfl b6.heap.size 0 (W6.cs (limb (W6.bvw bs n))) rfl rfl (by have h1 := thereOf hK0; exact h1) (W6.info _) (W6.one _) ?_
  clear hK0
  have hlb : b6.heap.size ≤ b6.heap.size := Nat.le_refl _
  generalize (b6.alloc (.cells _ 29 (0, 0))).setCells b6.heap.size 0 (W6.cs (limb (W6.bvw bs n))).toList = d6 at g1 hb ⊢
  have HK6 := hideP g1
  replace H6 := hideP ((hb.block _ (lt_of_block H6.out)).trans H6.out)
  replace H7 := hideP ((hb.block _ (lt_of_block H7.out)).trans H7.out)
  replace H8 := hideP ((hb.block _ (lt_of_block H8.out)).trans H8.out)
  replace H9 := hideP ((hb.block _ (lt_of_block H9.out)).trans H9.out)
  replace HBS := hideP (HBS.out.moved hb)
  replace HBW := hideP (HBW.out.trans (hb.mono HBW.out.size))
  clear hb g1
  generalize b6.heap.size = B6 at HK6 ⊢
  clear hlb
  go_wp2_with fail
  refine (W6.rbig_all HN.out _ HBS.out).mono ?_
  rintro r e6 ⟨⟨g6, rfl, hg⟩, hb⟩
  replace H6 := hideP ((hb.block _ (lt_of_block H6.out)).trans H6.out)
  replace H7 := hideP ((hb.block _ (lt_of_block H7.out)).trans H7.out)
  replace H8 := hideP ((hb.block _ (lt_of_block H8.out)).trans H8.out)
  replace H9 := hideP ((hb.block _ (lt_of_block H9.out)).trans H9.out)
  replace HK6 := hideP ((hb.block _ (lt_of_block HK6.out)).trans HK6.out)
  replace HBS := hideP (HBS.out.moved hb)
  replace HBW := hideP (HBW.out.trans (hb.mono HBW.out.size))
  have HG6 := hideP hg
  clear hb hg
  go_wp2_with fail
  refine wp_region_heldS (S := fun V => Below e6.heap.size e6 V) (by kernel_rfl) ((Below.refl _ _).drew) (fun hS => ?_)
  refine wpAnyH_takeL (i := 0) (v := .agg (W6.cs (limb (W6.bvw bs n)))) rfl (by kernel_rfl) (by kernel_rfl) (by kernel_rfl) (fun _ _ _ h => h) (yieldsIf_load_mid (by kernel_rfl) 29 _ rfl (B6) (0) rfl (W6.cs (limb (W6.bvw bs n))).toList _ (fun V hV => rangeOf ((hV.block _ (lt_of_block HK6.out)).trans HK6.out)) W6.under rfl (W6.info _)) hS ?_
  simp only [put_list, List.set_cons_succ, List.set_cons_zero]
  refine wpAnyH_takeL (i := 1) (v := ?_) rfl (by kernel_rfl) (by kernel_rfl) (by kernel_rfl) (fun _ _ _ h => h) (Or.inl ⟨by kernel_rfl, ?_⟩) hS ?_
  rotate_left
  · intro V hV
    go_simp
    (try with_reducible rfl)
  simp only [put_list, List.set_cons_succ, List.set_cons_zero]
  refine wpAnyH_ready (rs := [2]) (by kernel_rfl) (by simp) (AllReadyH.cons rfl (fun K hK => ?_) AllReadyH.nil)
  go_simp
  refine (W6.array_any _ _ _ ((hS.block _ (lt_of_block HG6.out)).trans HG6.out)).mono ?_
  rintro r f6 ⟨rfl, hbc⟩
  refine hK.out _ _ (hS.trans (hbc.mono hS.size)) (fun hS2 => ?_)
  clear hbc hS
  have hS := hS2
  clear hS2
  clear hK K
  refine wpAnyH_takeL (i := 3) (v := .bool false) rfl (by kernel_rfl) (by kernel_rfl) (by kernel_rfl) (fun _ _ _ h => h) (Or.inl ⟨by kernel_rfl, ?_⟩) hS ?_
  · intro V hV
    exact W6.exec_neR rfl rfl V (W6.eq_same HV6.out V)
  simp only [put_list, List.set_cons_succ, List.set_cons_zero]
  refine wpAnyH_takeL (i := 4) (v := ?_) rfl (by kernel_rfl) (by kernel_rfl) (by kernel_rfl) (fun _ _ _ h => h) (Or.inl ⟨by kernel_rfl, ?_⟩) hS ?_
  rotate_left
  · intro V hV
    go_simp
    (try with_reducible rfl)
  simp only [put_list, List.set_cons_succ, List.set_cons_zero]
  refine wpAnyH_takeL (i := 5) (v := ?_) rfl (by kernel_rfl) (by kernel_rfl) (by kernel_rfl) (fun _ _ _ h => h) (Or.inl ⟨by kernel_rfl, ?_⟩) hS ?_
  rotate_left
  · intro V hV
    go_simp
    (try with_reducible rfl)
  simp only [put_list, List.set_cons_succ, List.set_cons_zero]
  refine wpAnyH_takeL (i := 6) (v := ?_) rfl (by kernel_rfl) (by kernel_rfl) (by kernel_rfl) (fun _ _ _ h => h) (Or.inl ⟨by kernel_rfl, ?_⟩) hS ?_
  rotate_left
  · intro V hV
    go_simp
    (try with_reducible rfl)
  simp only [put_list, List.set_cons_succ, List.set_cons_zero]
  refine wpAnyH_takeL (i := 7) (v := ?_) rfl (by kernel_rfl) (by kernel_rfl) (by kernel_rfl) (fun _ _ _ h => h) (Or.inl ⟨by kernel_rfl, ?_⟩) hS ?_
  rotate_left
  · intro V hV
    go_simp
    (try with_reducible rfl)
  simp only [put_list, List.set_cons_succ, List.set_cons_zero]
  refine wpAnyH_takeL (i := 8) (v := ?_) rfl (by kernel_rfl) (by kernel_rfl) (by kernel_rfl) (fun _ _ _ h => h) (Or.inl ⟨by kernel_rfl, ?_⟩) hS ?_
  rotate_left
  · intro V hV
    go_simp
    (try with_reducible rfl)
  simp only [put_list, List.set_cons_succ, List.set_cons_zero]
  refine wpAnyH_done (by kernel_rfl) ?_ _
  (try simp only [put_none])
  have hb := hS
  replace H6 := hideP ((hb.block _ (lt_of_block H6.out)).trans H6.out)
  replace H7 := hideP ((hb.block _ (lt_of_block H7.out)).trans H7.out)
  replace H8 := hideP ((hb.block _ (lt_of_block H8.out)).trans H8.out)
  replace H9 := hideP ((hb.block _ (lt_of_block H9.out)).trans H9.out)
  replace HBS := hideP (HBS.out.moved hb)
  replace HBW := hideP (HBW.out.trans (hb.mono HBW.out.size))
  clear hb hS HG6 HK6
  go_wp2_with fail
  refine wp_region_heldS (S := fun V => Below f6.heap.size f6 V) (by kernel_rfl) ((Below.refl _ _).drew) (fun hS => ?_)
  refine wpAnyH_takeL (i := 0) (v := .agg (W4.cs (limb X))) rfl (by kernel_rfl) (by kernel_rfl) (by kernel_rfl) (fun _ _ _ h => h) (yieldsIf_load_mid (by kernel_rfl) 24 _ rfl (w.heap.size) (0) rfl (W4.cs (limb X)).toList _ (fun V hV => rangeOf ((hV.block _ (lt_of_block H6.out)).trans H6.out)) W4.under rfl (W4.info _)) hS ?_
  simp only [put_list, List.set_cons_succ, List.set_cons_zero]
  refine wpAnyH_takeL (i := 3) (v := .agg (W4.cs (limb X))) rfl (by kernel_rfl) (by kernel_rfl) (by kernel_rfl) (fun _ _ _ h => h) (yieldsIf_load_mid (by kernel_rfl) 24 _ rfl (w.heap.size) (0) rfl (W4.cs (limb X)).toList _ (fun V hV => rangeOf ((hV.block _ (lt_of_block H6.out)).trans H6.out)) W4.under rfl (W4.info _)) hS ?_
  simp only [put_list, List.set_cons_succ, List.set_cons_zero]
  refine wpAnyH_ready (rs := [1]) (by kernel_rfl) (by simp) (AllReadyH.cons rfl (fun K hK => ?_) AllReadyH.nil)
  go_simp
  refine (W4.bytes_any X _).mono ?_
  rintro r y1 ⟨⟨g, rfl, hg⟩, hb⟩
  refine hK.out _ _ (hS.trans (hb.mono hS.size)) (fun hS2 => ?_)
  clear hb hS
  have hS := hS2
  clear hS2
  have HY1 := hideP (W4.bytesB hg)
  clear hg
  clear hK K
  have hb := hS
  replace H6 := hideP ((hb.block _ (lt_of_block H6.out)).trans H6.out)
  replace H7 := hideP ((hb.block _ (lt_of_block H7.out)).trans H7.out)
  replace H8 := hideP ((hb.block _ (lt_of_block H8.out)).trans H8.out)
  replace H9 := hideP ((hb.block _ (lt_of_block H9.out)).trans H9.out)
  replace HBW := hideP (HBW.out.trans (hb.mono HBW.out.size))
  clear hb
  refine wpAnyH_switch (S' := fun V => Below y1.heap.size y1 V) (fun V hV => hS.trans (hV.mono hS.size)) ?_
  clear hS
  have hS := Below.refl y1.heap.size y1
  refine wpAnyH_takeL (i := 2) (v := ?_) rfl (by kernel_rfl) (by kernel_rfl) (by kernel_rfl) (fun _ _ _ h => h) (Or.inl ⟨by kernel_rfl, ?_⟩) hS ?_
  rotate_left
  · intro V hV
    have hcv := conv_BS (HY1.out.moved hV)
    go_simp
    (try with_reducible rfl)
  simp only [put_list, List.set_cons_succ, List.set_cons_zero]
  refine wpAnyH_ready (rs := [4]) (by kernel_rfl) (by simp) (AllReadyH.cons rfl (fun K hK => ?_) AllReadyH.nil)
  go_simp
  refine (W4.list_any X _).mono ?_
  rintro r y2 ⟨⟨v, rfl, hg⟩, hb⟩
  refine hK.out _ _ (hS.trans (hb.mono hS.size)) (fun hS2 => ?_)
  clear hb hS
  have hS := hS2
  clear hS2
  have HY2 := hideP hg
  clear hg
  clear hK K
  have hb := hS
  replace H6 := hideP ((hb.block _ (lt_of_block H6.out)).trans H6.out)
  replace H7 := hideP ((hb.block _ (lt_of_block H7.out)).trans H7.out)
  replace H8 := hideP ((hb.block _ (lt_of_block H8.out)).trans H8.out)
  replace H9 := hideP ((hb.block _ (lt_of_block H9.out)).trans H9.out)
  replace HY1 := hideP (HY1.out.moved hb)
  replace HBW := hideP (HBW.out.trans (hb.mono HBW.out.size))
  clear hb
  refine wpAnyH_switch (S' := fun V => Below y2.heap.size y2 V) (fun V hV => hS.trans (hV.mono hS.size)) ?_
  clear hS
  have hS := Below.refl y2.heap.size y2
  refine wpAnyH_ready (rs := [5]) (by kernel_rfl) (by simp) (AllReadyH.cons rfl (fun K hK => ?_) AllReadyH.nil)
  go_simp
  refine (W4.rbytes_any X _ _ (HY2.out.moved hS)).mono ?_
  rintro r y3 ⟨⟨g, rfl, hg⟩, hb⟩
  refine hK.out _ _ (hS.trans (hb.mono hS.size)) (fun hS2 => ?_)
  clear hb hS
  have hS := hS2
  clear hS2
  have HY3 := hideP (W4.bytesB hg)
  clear hg
  clear hK K
  have hb := hS
  replace H6 := hideP ((hb.block _ (lt_of_block H6.out)).trans H6.out)
  replace H7 := hideP ((hb.block _ (lt_of_block H7.out)).trans H7.out)
  replace H8 := hideP ((hb.block _ (lt_of_block H8.out)).trans H8.out)
  replace H9 := hideP ((hb.block _ (lt_of_block H9.out)).trans H9.out)
  replace HY1 := hideP (HY1.out.moved hb)
  replace HY2 := hideP (HY2.out.moved hb)
  replace HBW := hideP (HBW.out.trans (hb.mono HBW.out.size))
  clear hb
  refine wpAnyH_switch (S' := fun V => Below y3.heap.size y3 V) (fun V hV => hS.trans (hV.mono hS.size)) ?_
  clear hS
  have hS := Below.refl y3.heap.size y3
  refine wpAnyH_takeL (i := 6) (v := ?_) rfl (by kernel_rfl) (by kernel_rfl) (by kernel_rfl) (fun _ _ _ h => h) (Or.inl ⟨by kernel_rfl, ?_⟩) hS ?_
  rotate_left
  · intro V hV
    have hcv := conv_BS (HY3.out.moved hV)
    go_simp
    (try with_reducible rfl)
  simp only [put_list, List.set_cons_succ, List.set_cons_zero]
  as_aux_lemma =>
    refine wpAnyH_takeL (i := 7) (v := ?_) rfl (by kernel_rfl) (by kernel_rfl) (by kernel_rfl) (fun _ _ _ h => h) (Or.inl ⟨by kernel_rfl, ?_⟩) hS ?_
    rotate_left
    · intro V hV
      go_simp
      (try with_reducible rfl)
    simp only [put_list, List.set_cons_succ, List.set_cons_zero]
    refine wpAnyH_takeL (i := 8) (v := ?_) rfl (by kernel_rfl) (by kernel_rfl) (by kernel_rfl) (fun _ _ _ h => h) (Or.inl ⟨by kernel_rfl, ?_⟩) hS ?_
    rotate_left
    · intro V hV
      go_simp
      (try with_reducible rfl)
    simp only [put_list, List.set_cons_succ, List.set_cons_zero]
    refine wpAnyH_takeL (i := 9) (v := .agg (W6.cs (limb U))) rfl (by kernel_rfl) (by kernel_rfl) (by kernel_rfl) (fun _ _ _ h => h) (yieldsIf_load_mid (by kernel_rfl) 29 _ rfl (w.heap.size + 1 + 1) (0) rfl (W6.cs (limb U)).toList _ (fun V hV => rangeOf ((hV.block _ (lt_of_block H8.out)).trans H8.out)) W6.under rfl (W6.info _)) hS ?_
    simp only [put_list, List.set_cons_succ, List.set_cons_zero]
    refine wpAnyH_takeL (i := 12) (v := .agg (W6.cs (limb U))) rfl (by kernel_rfl) (by kernel_rfl) (by kernel_rfl) (fun _ _ _ h => h) (yieldsIf_load_mid (by kernel_rfl) 29 _ rfl (w.heap.size + 1 + 1) (0) rfl (W6.cs (limb U)).toList _ (fun V hV => rangeOf ((hV.block _ (lt_of_block H8.out)).trans H8.out)) W6.under rfl (W6.info _)) hS ?_
    simp only [put_list, List.set_cons_succ, List.set_cons_zero]
    refine wpAnyH_ready (rs := [10]) (by kernel_rfl) (by simp) (AllReadyH.cons rfl (fun K hK => ?_) AllReadyH.nil)
    go_simp
    refine (W6.bytes_any U _).mono ?_
    rintro r y4 ⟨⟨g, rfl, hg⟩, hb⟩
    refine hK.out _ _ (hS.trans (hb.mono hS.size)) (fun hS2 => ?_)
    clear hb hS
    have hS := hS2
    clear hS2
    have HY4 := hideP (W6.bytesB hg)
    clear hg
    clear hK K
    have hb := hS
    replace H6 := hideP ((hb.block _ (lt_of_block H6.out)).trans H6.out)
    replace H7 := hideP ((hb.block _ (lt_of_block H7.out)).trans H7.out)
    replace H8 := hideP ((hb.block _ (lt_of_block H8.out)).trans H8.out)
    replace H9 := hideP ((hb.block _ (lt_of_block H9.out)).trans H9.out)
    replace HY1 := hideP (HY1.out.moved hb)
    replace HY2 := hideP (HY2.out.moved hb)
    replace HY3 := hideP (HY3.out.moved hb)
    replace HBW := hideP (HBW.out.trans (hb.mono HBW.out.size))
    clear hb
    refine wpAnyH_switch (S' := fun V => Below y4.heap.size y4 V) (fun V hV => hS.trans (hV.mono hS.size)) ?_
    clear hS
    have hS := Below.refl y4.heap.size y4
    refine wpAnyH_takeL (i := 11) (v := ?_) rfl (by kernel_rfl) (by kernel_rfl) (by kernel_rfl) (fun _ _ _ h => h) (Or.inl ⟨by kernel_rfl, ?_⟩) hS ?_
    rotate_left
    · intro V hV
      have hcv := conv_BS (HY4.out.moved hV)
      go_simp
      (try with_reducible rfl)
    simp only [put_list, List.set_cons_succ, List.set_cons_zero]
    refine wpAnyH_ready (rs := [13]) (by kernel_rfl) (by simp) (AllReadyH.cons rfl (fun K hK => ?_) AllReadyH.nil)
    go_simp
    refine (W6.list_any U _).mono ?_
    rintro r y5 ⟨⟨v, rfl, hg⟩, hb⟩
    refine hK.out _ _ (hS.trans (hb.mono hS.size)) (fun hS2 => ?_)
    clear hb hS
    have hS := hS2
    clear hS2
    have HY5 := hideP hg
    clear hg
    clear hK K
    have hb := hS
    replace H6 := hideP ((hb.block _ (lt_of_block H6.out)).trans H6.out)
    replace H7 := hideP ((hb.block _ (lt_of_block H7.out)).trans H7.out)
    replace H8 := hideP ((hb.block _ (lt_of_block H8.out)).trans H8.out)
    replace H9 := hideP ((hb.block _ (lt_of_block H9.out)).trans H9.out)
    replace HY1 := hideP (HY1.out.moved hb)
    replace HY2 := hideP (HY2.out.moved hb)
    replace HY3 := hideP (HY3.out.moved hb)
    replace HY4 := hideP (HY4.out.moved hb)
    replace HBW := hideP (HBW.out.trans (hb.mono HBW.out.size))
    clear hb
    refine wpAnyH_switch (S' := fun V => Below y5.heap.size y5 V) (fun V hV => hS.trans (hV.mono hS.size)) ?_
    clear hS
    have hS := Below.refl y5.heap.size y5
    refine wpAnyH_ready (rs := [14]) (by kernel_rfl) (by simp) (AllReadyH.cons rfl (fun K hK => ?_) AllReadyH.nil)
    go_simp
    refine (W6.rbytes_any U _ _ (HY5.out.moved hS)).mono ?_
    rintro r y6 ⟨⟨g, rfl, hg⟩, hb⟩
    refine hK.out _ _ (hS.trans (hb.mono hS.size)) (fun hS2 => ?_)
    clear hb hS
    have hS := hS2
    clear hS2
    have HY6 := hideP (W6.bytesB hg)
    clear hg
    clear hK K
    have hb := hS
    replace H6 := hideP ((hb.block _ (lt_of_block H6.out)).trans H6.out)
    replace H7 := hideP ((hb.block _ (lt_of_block H7.out)).trans H7.out)
    replace H8 := hideP ((hb.block _ (lt_of_block H8.out)).trans H8.out)
    replace H9 := hideP ((hb.block _ (lt_of_block H9.out)).trans H9.out)
    replace HY1 := hideP (HY1.out.moved hb)
    replace HY2 := hideP (HY2.out.moved hb)
    replace HY3 := hideP (HY3.out.moved hb)
    replace HY4 := hideP (HY4.out.moved hb)
    replace HY5 := hideP (HY5.out.moved hb)
    replace HBW := hideP (HBW.out.trans (hb.mono HBW.out.size))
    clear hb
    refine wpAnyH_switch (S' := fun V => Below y6.heap.size y6 V) (fun V hV => hS.trans (hV.mono hS.size)) ?_
    clear hS
    have hS := Below.refl y6.heap.size y6
    as_aux_lemma =>
      refine wpAnyH_takeL (i := 15) (v := ?_) rfl (by kernel_rfl) (by kernel_rfl) (by kernel_rfl) (fun _ _ _ h => h) (Or.inl ⟨by kernel_rfl, ?_⟩) hS ?_
      rotate_left
      · intro V hV
        have hcv := conv_BS (HY6.out.moved hV)
        go_simp
        (try with_reducible rfl)
      simp only [put_list, List.set_cons_succ, List.set_cons_zero]
      refine wpAnyH_takeL (i := 16) (v := ?_) rfl (by kernel_rfl) (by kernel_rfl) (by kernel_rfl) (fun _ _ _ h => h) (Or.inl ⟨by kernel_rfl, ?_⟩) hS ?_
      rotate_left
      · intro V hV
        go_simp
        (try with_reducible rfl)
      simp only [put_list, List.set_cons_succ, List.set_cons_zero]
      refine wpAnyH_takeL (i := 17) (v := ?_) rfl (by kernel_rfl) (by kernel_rfl) (by kernel_rfl) (fun _ _ _ h => h) (Or.inl ⟨by kernel_rfl, ?_⟩) hS ?_
      rotate_left
      · intro V hV
        go_simp
        (try with_reducible rfl)
      simp only [put_list, List.set_cons_succ, List.set_cons_zero]
      refine wpAnyH_takeL (i := 18) (v := ?_) rfl (by kernel_rfl) (by kernel_rfl) (by kernel_rfl) (fun _ _ _ h => h) (Or.inl ⟨by kernel_rfl, ?_⟩) hS ?_
      rotate_left
      · intro V hV
        go_simp
        (try with_reducible rfl)
      simp only [put_list, List.set_cons_succ, List.set_cons_zero]
      refine wpAnyH_takeL (i := 19) (v := .agg (W4.cs (limb X))) rfl (by kernel_rfl) (by kernel_rfl) (by kernel_rfl) (fun _ _ _ h => h) (yieldsIf_load_mid (by kernel_rfl) 24 _ rfl (w.heap.size) (0) rfl (W4.cs (limb X)).toList _ (fun V hV => rangeOf ((hV.block _ (lt_of_block H6.out)).trans H6.out)) W4.under rfl (W4.info _)) hS ?_
      simp only [put_list, List.set_cons_succ, List.set_cons_zero]
      refine wpAnyH_takeL (i := 20) (v := .agg (W4.cs (limb Y))) rfl (by kernel_rfl) (by kernel_rfl) (by kernel_rfl) (fun _ _ _ h => h) (yieldsIf_load_mid (by kernel_rfl) 24 _ rfl (w.heap.size + 1) (0) rfl (W4.cs (limb Y)).toList _ (fun V hV => rangeOf ((hV.block _ (lt_of_block H7.out)).trans H7.out)) W4.under rfl (W4.info _)) hS ?_
      simp only [put_list, List.set_cons_succ, List.set_cons_zero]
      refine wpAnyH_takeL (i := 22) (v := .agg (W4.cs (limb X))) rfl (by kernel_rfl) (by kernel_rfl) (by kernel_rfl) (fun _ _ _ h => h) (yieldsIf_load_mid (by kernel_rfl) 24 _ rfl (w.heap.size) (0) rfl (W4.cs (limb X)).toList _ (fun V hV => rangeOf ((hV.block _ (lt_of_block H6.out)).trans H6.out)) W4.under rfl (W4.info _)) hS ?_
      simp only [put_list, List.set_cons_succ, List.set_cons_zero]
      refine wpAnyH_takeL (i := 24) (v := .agg (W4.cs (limb Y))) rfl (by kernel_rfl) (by kernel_rfl) (by kernel_rfl) (fun _ _ _ h => h) (yieldsIf_load_mid (by kernel_rfl) 24 _ rfl (w.heap.size + 1) (0) rfl (W4.cs (limb Y)).toList _ (fun V hV => rangeOf ((hV.block _ (lt_of_block H7.out)).trans H7.out)) W4.under rfl (W4.info _)) hS ?_
      simp only [put_list, List.set_cons_succ, List.set_cons_zero]
      as_aux_lemma =>
        refine wpAnyH_ready (rs := [21]) (by kernel_rfl) (by simp) (AllReadyH.cons rfl (fun K hK => ?_) AllReadyH.nil)
        go_simp
        refine (W4.lessw_any X Y HR.out.1 HR.out.2.1 _).mono ?_
        rintro r y7 ⟨rfl, hb⟩
        refine hK.out _ _ (hS.trans (hb.mono hS.size)) (fun hS2 => ?_)
        clear hb hS
        have hS := hS2
        clear hS2
        clear hK K
        have hb := hS
        replace H6 := hideP ((hb.block _ (lt_of_block H6.out)).trans H6.out)
        replace H7 := hideP ((hb.block _ (lt_of_block H7.out)).trans H7.out)
        replace H8 := hideP ((hb.block _ (lt_of_block H8.out)).trans H8.out)
        replace H9 := hideP ((hb.block _ (lt_of_block H9.out)).trans H9.out)
        replace HY1 := hideP (HY1.out.moved hb)
        replace HY2 := hideP (HY2.out.moved hb)
        replace HY3 := hideP (HY3.out.moved hb)
        replace HY4 := hideP (HY4.out.moved hb)
        replace HY5 := hideP (HY5.out.moved hb)
        replace HY6 := hideP (HY6.out.moved hb)
        replace HBW := hideP (HBW.out.trans (hb.mono HBW.out.size))
        clear hb
        refine wpAnyH_switch (S' := fun V => Below y7.heap.size y7 V) (fun V hV => hS.trans (hV.mono hS.size)) ?_
        clear hS
        have hS := Below.refl y7.heap.size y7
        refine wpAnyH_ready (rs := [23]) (by kernel_rfl) (by simp) (AllReadyH.cons rfl (fun K hK => ?_) AllReadyH.nil)
        go_simp
        refine (W4.list_any X _).mono ?_
        rintro r y8 ⟨⟨v, rfl, hg⟩, hb⟩
        refine hK.out _ _ (hS.trans (hb.mono hS.size)) (fun hS2 => ?_)
        clear hb hS
        have hS := hS2
        clear hS2
        have HY8 := hideP hg
        clear hg
        clear hK K
        have hb := hS
        replace H6 := hideP ((hb.block _ (lt_of_block H6.out)).trans H6.out)
        replace H7 := hideP ((hb.block _ (lt_of_block H7.out)).trans H7.out)
        replace H8 := hideP ((hb.block _ (lt_of_block H8.out)).trans H8.out)
        replace H9 := hideP ((hb.block _ (lt_of_block H9.out)).trans H9.out)
        replace HY1 := hideP (HY1.out.moved hb)
        replace HY2 := hideP (HY2.out.moved hb)
        replace HY3 := hideP (HY3.out.moved hb)
        replace HY4 := hideP (HY4.out.moved hb)
        replace HY5 := hideP (HY5.out.moved hb)
        replace HY6 := hideP (HY6.out.moved hb)
        replace HBW := hideP (HBW.out.trans (hb.mono HBW.out.size))
        clear hb
        refine wpAnyH_switch (S' := fun V => Below y8.heap.size y8 V) (fun V hV => hS.trans (hV.mono hS.size)) ?_
        clear hS
        have hS := Below.refl y8.heap.size y8
        refine wpAnyH_ready (rs := [25]) (by kernel_rfl) (by simp) (AllReadyH.cons rfl (fun K hK => ?_) AllReadyH.nil)
        go_simp
        refine (W4.list_any Y _).mono ?_
        rintro r y9 ⟨⟨v, rfl, hg⟩, hb⟩
        refine hK.out _ _ (hS.trans (hb.mono hS.size)) (fun hS2 => ?_)
        clear hb hS
        have hS := hS2
        clear hS2
        have HY9 := hideP hg
        clear hg
        clear hK K
        have hb := hS
        replace H6 := hideP ((hb.block _ (lt_of_block H6.out)).trans H6.out)
        replace H7 := hideP ((hb.block _ (lt_of_block H7.out)).trans H7.out)
        replace H8 := hideP ((hb.block _ (lt_of_block H8.out)).trans H8.out)
        replace H9 := hideP ((hb.block _ (lt_of_block H9.out)).trans H9.out)
        replace HY1 := hideP (HY1.out.moved hb)
        replace HY2 := hideP (HY2.out.moved hb)
        replace HY3 := hideP (HY3.out.moved hb)
        replace HY4 := hideP (HY4.out.moved hb)
        replace HY5 := hideP (HY5.out.moved hb)
        replace HY6 := hideP (HY6.out.moved hb)
        replace HY8 := hideP (HY8.out.moved hb)
        replace HBW := hideP (HBW.out.trans (hb.mono HBW.out.size))
        clear hb
        refine wpAnyH_switch (S' := fun V => Below y9.heap.size y9 V) (fun V hV => hS.trans (hV.mono hS.size)) ?_
        clear hS
        have hS := Below.refl y9.heap.size y9
        refine wpAnyH_ready (rs := [26]) (by kernel_rfl) (by simp) (AllReadyH.cons rfl (fun K hK => ?_) AllReadyH.nil)
        go_simp
        refine (W4.rless_any X Y HR.out.1 HR.out.2.1 _ _ _ (HY8.out.moved hS) (HY9.out.moved hS)).mono ?_
        rintro r y10 ⟨rfl, hb⟩
        refine hK.out _ _ (hS.trans (hb.mono hS.size)) (fun hS2 => ?_)
        clear hb hS
        have hS := hS2
        clear hS2
        clear hK K
        have hb := hS
        replace H6 := hideP ((hb.block _ (lt_of_block H6.out)).trans H6.out)
        replace H7 := hideP ((hb.block _ (lt_of_block H7.out)).trans H7.out)
        replace H8 := hideP ((hb.block _ (lt_of_block H8.out)).trans H8.out)
        replace H9 := hideP ((hb.block _ (lt_of_block H9.out)).trans H9.out)
        replace HY1 := hideP (HY1.out.moved hb)
        replace HY2 := hideP (HY2.out.moved hb)
        replace HY3 := hideP (HY3.out.moved hb)
        replace HY4 := hideP (HY4.out.moved hb)
        replace HY5 := hideP (HY5.out.moved hb)
        replace HY6 := hideP (HY6.out.moved hb)
        replace HY8 := hideP (HY8.out.moved hb)
        replace HY9 := hideP (HY9.out.moved hb)
        replace HBW := hideP (HBW.out.trans (hb.mono HBW.out.size))
        clear hb
        refine wpAnyH_switch (S' := fun V => Below y10.heap.size y10 V) (fun V hV => hS.trans (hV.mono hS.size)) ?_
        clear hS
        have hS := Below.refl y10.heap.size y10
        refine wpAnyH_takeL (i := 27) (v := ?_) rfl (by kernel_rfl) (by kernel_rfl) (by kernel_rfl) (fun _ _ _ h => h) (Or.inl ⟨by kernel_rfl, ?_⟩) hS ?_
        rotate_left
        · intro V hV
          go_simp
          (try with_reducible rfl)
        simp only [put_list, List.set_cons_succ, List.set_cons_zero]
        refine wpAnyH_takeL (i := 28) (v := ?_) rfl (by kernel_rfl) (by kernel_rfl) (by kernel_rfl) (fun _ _ _ h => h) (Or.inl ⟨by kernel_rfl, ?_⟩) hS ?_
        rotate_left
        · intro V hV
          go_simp
          (try with_reducible rfl)
        simp only [put_list, List.set_cons_succ, List.set_cons_zero]
        refine wpAnyH_takeL (i := 29) (v := ?_) rfl (by kernel_rfl) (by kernel_rfl) (by kernel_rfl) (fun _ _ _ h => h) (Or.inl ⟨by kernel_rfl, ?_⟩) hS ?_
        rotate_left
        · intro V hV
          go_simp
          (try with_reducible rfl)
        simp only [put_list, List.set_cons_succ, List.set_cons_zero]
        refine wpAnyH_takeL (i := 30) (v := .agg (W6.cs (limb U))) rfl (by kernel_rfl) (by kernel_rfl) (by kernel_rfl) (fun _ _ _ h => h) (yieldsIf_load_mid (by kernel_rfl) 29 _ rfl (w.heap.size + 1 + 1) (0) rfl (W6.cs (limb U)).toList _ (fun V hV => rangeOf ((hV.block _ (lt_of_block H8.out)).trans H8.out)) W6.under rfl (W6.info _)) hS ?_
        simp only [put_list, List.set_cons_succ, List.set_cons_zero]
        as_aux_lemma =>
          refine wpAnyH_takeL (i := 31) (v := .agg (W6.cs (limb Z))) rfl (by kernel_rfl) (by kernel_rfl) (by kernel_rfl) (fun _ _ _ h => h) (yieldsIf_load_mid (by kernel_rfl) 29 _ rfl (w.heap.size + 1 + 1 + 1) (0) rfl (W6.cs (limb Z)).toList _ (fun V hV => rangeOf ((hV.block _ (lt_of_block H9.out)).trans H9.out)) W6.under rfl (W6.info _)) hS ?_
          simp only [put_list, List.set_cons_succ, List.set_cons_zero]
          refine wpAnyH_takeL (i := 33) (v := .agg (W6.cs (limb U))) rfl (by kernel_rfl) (by kernel_rfl) (by kernel_rfl) (fun _ _ _ h => h) (yieldsIf_load_mid (by kernel_rfl) 29 _ rfl (w.heap.size + 1 + 1) (0) rfl (W6.cs (limb U)).toList _ (fun V hV => rangeOf ((hV.block _ (lt_of_block H8.out)).trans H8.out)) W6.under rfl (W6.info _)) hS ?_
          simp only [put_list, List.set_cons_succ, List.set_cons_zero]
          refine wpAnyH_takeL (i := 35) (v := .agg (W6.cs (limb Z))) rfl (by kernel_rfl) (by kernel_rfl) (by kernel_rfl) (fun _ _ _ h => h) (yieldsIf_load_mid (by kernel_rfl) 29 _ rfl (w.heap.size + 1 + 1 + 1) (0) rfl (W6.cs (limb Z)).toList _ (fun V hV => rangeOf ((hV.block _ (lt_of_block H9.out)).trans H9.out)) W6.under rfl (W6.info _)) hS ?_
          simp only [put_list, List.set_cons_succ, List.set_cons_zero]
          refine wpAnyH_ready (rs := [32]) (by kernel_rfl) (by simp) (AllReadyH.cons rfl (fun K hK => ?_) AllReadyH.nil)
          go_simp
          refine (W6.lessw_any U Z HR.out.2.2.1 HR.out.2.2.2 _).mono ?_
          rintro r y11 ⟨rfl, hb⟩
          refine hK.out _ _ (hS.trans (hb.mono hS.size)) (fun hS2 => ?_)
          clear hb hS
          have hS := hS2
          clear hS2
          clear hK K
          have hb := hS
          replace H6 := hideP ((hb.block _ (lt_of_block H6.out)).trans H6.out)
          replace H7 := hideP ((hb.block _ (lt_of_block H7.out)).trans H7.out)
          replace H8 := hideP ((hb.block _ (lt_of_block H8.out)).trans H8.out)
          replace H9 := hideP ((hb.block _ (lt_of_block H9.out)).trans H9.out)
          replace HY1 := hideP (HY1.out.moved hb)
          replace HY2 := hideP (HY2.out.moved hb)
          replace HY3 := hideP (HY3.out.moved hb)
          replace HY4 := hideP (HY4.out.moved hb)
          replace HY5 := hideP (HY5.out.moved hb)
          replace HY6 := hideP (HY6.out.moved hb)
          replace HY8 := hideP (HY8.out.moved hb)
          replace HY9 := hideP (HY9.out.moved hb)
          replace HBW := hideP (HBW.out.trans (hb.mono HBW.out.size))
          clear hb
          refine wpAnyH_switch (S' := fun V => Below y11.heap.size y11 V) (fun V hV => hS.trans (hV.mono hS.size)) ?_
          clear hS
          have hS := Below.refl y11.heap.size y11
          refine wpAnyH_ready (rs := [34]) (by kernel_rfl) (by simp) (AllReadyH.cons rfl (fun K hK => ?_) AllReadyH.nil)
          go_simp
          refine (W6.list_any U _).mono ?_
          rintro r y12 ⟨⟨v, rfl, hg⟩, hb⟩
          refine hK.out _ _ (hS.trans (hb.mono hS.size)) (fun hS2 => ?_)
          clear hb hS
          have hS := hS2
          clear hS2
          have HY12 := hideP hg
          clear hg
          clear hK K
          have hb := hS
          replace H6 := hideP ((hb.block _ (lt_of_block H6.out)).trans H6.out)
          replace H7 := hideP ((hb.block _ (lt_of_block H7.out)).trans H7.out)
          replace H8 := hideP ((hb.block _ (lt_of_block H8.out)).trans H8.out)
          replace H9 := hideP ((hb.block _ (lt_of_block H9.out)).trans H9.out)
          replace HY1 := hideP (HY1.out.moved hb)
          replace HY2 := hideP (HY2.out.moved hb)
          replace HY3 := hideP (HY3.out.moved hb)
          replace HY4 := hideP (HY4.out.moved hb)
          replace HY5 := hideP (HY5.out.moved hb)
          replace HY6 := hideP (HY6.out.moved hb)
          replace HY8 := hideP (HY8.out.moved hb)
          replace HY9 := hideP (HY9.out.moved hb)
          replace HBW := hideP (HBW.out.trans (hb.mono HBW.out.size))
          clear hb
          refine wpAnyH_switch (S' := fun V => Below y12.heap.size y12 V) (fun V hV => hS.trans (hV.mono hS.size)) ?_
          clear hS
          have hS := Below.refl y12.heap.size y12
          refine wpAnyH_ready (rs := [36]) (by kernel_rfl) (by simp) (AllReadyH.cons rfl (fun K hK => ?_) AllReadyH.nil)
          go_simp
          refine (W6.list_any Z _).mono ?_
          rintro r y13 ⟨⟨v, rfl, hg⟩, hb⟩
          refine hK.out _ _ (hS.trans (hb.mono hS.size)) (fun hS2 => ?_)
          clear hb hS
          have hS := hS2
          clear hS2
          have HY13 := hideP hg
          clear hg
          clear hK K
          have hb := hS
          replace H6 := hideP ((hb.block _ (lt_of_block H6.out)).trans H6.out)
          replace H7 := hideP ((hb.block _ (lt_of_block H7.out)).trans H7.out)
          replace H8 := hideP ((hb.block _ (lt_of_block H8.out)).trans H8.out)
          replace H9 := hideP ((hb.block _ (lt_of_block H9.out)).trans H9.out)
          replace HY1 := hideP (HY1.out.moved hb)
          replace HY2 := hideP (HY2.out.moved hb)
          replace HY3 := hideP (HY3.out.moved hb)
          replace HY4 := hideP (HY4.out.moved hb)
          replace HY5 := hideP (HY5.out.moved hb)
          replace HY6 := hideP (HY6.out.moved hb)
          replace HY8 := hideP (HY8.out.moved hb)
          replace HY9 := hideP (HY9.out.moved hb)
          replace HY12 := hideP (HY12.out.moved hb)
          replace HBW := hideP (HBW.out.trans (hb.mono HBW.out.size))
          clear hb
          refine wpAnyH_switch (S' := fun V => Below y13.heap.size y13 V) (fun V hV => hS.trans (hV.mono hS.size)) ?_
          clear hS
          have hS := Below.refl y13.heap.size y13
          refine wpAnyH_ready (rs := [37]) (by kernel_rfl) (by simp) (AllReadyH.cons rfl (fun K hK => ?_) AllReadyH.nil)
          go_simp
          refine (W6.rless_any U Z HR.out.2.2.1 HR.out.2.2.2 _ _ _ (HY12.out.moved hS) (HY13.out.moved hS)).mono ?_
          rintro r y14 ⟨rfl, hb⟩
          refine hK.out _ _ (hS.trans (hb.mono hS.size)) (fun hS2 => ?_)
          clear hb hS
          have hS := hS2
          clear hS2
          clear hK K
          have hb := hS
          replace H6 := hideP ((hb.block _ (lt_of_block H6.out)).trans H6.out)
          replace H7 := hideP ((hb.block _ (lt_of_block H7.out)).trans H7.out)
          replace H8 := hideP ((hb.block _ (lt_of_block H8.out)).trans H8.out)
          replace H9 := hideP ((hb.block _ (lt_of_block H9.out)).trans H9.out)
          replace HY1 := hideP (HY1.out.moved hb)
          replace HY2 := hideP (HY2.out.moved hb)
          replace HY3 := hideP (HY3.out.moved hb)
          replace HY4 := hideP (HY4.out.moved hb)
          replace HY5 := hideP (HY5.out.moved hb)
          replace HY6 := hideP (HY6.out.moved hb)
          replace HY8 := hideP (HY8.out.moved hb)
          replace HY9 := hideP (HY9.out.moved hb)
          replace HY12 := hideP (HY12.out.moved hb)
          replace HY13 := hideP (HY13.out.moved hb)
          replace HBW := hideP (HBW.out.trans (hb.mono HBW.out.size))
          clear hb
          refine wpAnyH_switch (S' := fun V => Below y14.heap.size y14 V) (fun V hV => hS.trans (hV.mono hS.size)) ?_
          clear hS
          have hS := Below.refl y14.heap.size y14
          refine wpAnyH_takeL (i := 38) (v := ?_) rfl (by kernel_rfl) (by kernel_rfl) (by kernel_rfl) (fun _ _ _ h => h) (Or.inl ⟨by kernel_rfl, ?_⟩) hS ?_
          rotate_left
          · intro V hV
            go_simp
            (try with_reducible rfl)
          simp only [put_list, List.set_cons_succ, List.set_cons_zero]
          as_aux_lemma =>
            refine wpAnyH_takeL (i := 39) (v := ?_) rfl (by kernel_rfl) (by kernel_rfl) (by kernel_rfl) (fun _ _ _ h => h) (Or.inl ⟨by kernel_rfl, ?_⟩) hS ?_
            rotate_left
            · intro V hV
              go_simp
              (try with_reducible rfl)
            simp only [put_list, List.set_cons_succ, List.set_cons_zero]
            refine wpAnyH_ready (rs := [40]) (by kernel_rfl) (by simp) (AllReadyH.cons rfl (fun K hK => ?_) AllReadyH.nil)
            go_simp
            refine hK.out _ _ hS (fun hS => ?_)
            clear hK K
            refine wpAnyH_done (by kernel_rfl) ?_ _
            (try simp only [put_none])
            have HF := hideP (HBW.out.trans (hS.mono HBW.out.size))
            clear hS
            go_wp2
            go_ret
            exact ⟨rfl, HF.out⟩

end Go.Proofs.Ytiekipkmfopdoaa
