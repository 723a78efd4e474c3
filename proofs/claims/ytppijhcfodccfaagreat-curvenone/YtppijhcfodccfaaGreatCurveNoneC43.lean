/-
  The law of a curve that nobody made: what is held.
-/
import Derived.Test.YtppijhcfodccfaaGreatCurveNoneC42
import Derived.Test.YtppijhcfodccfaaGreatCurveNoneC04
import Derived.Test.YtppijhcfodccfaaGreatCurveNoneC25
import Derived.Test.YtppijhcfodccfaaGreatCurveNoneC26
import Derived.Test.YtppijhcfodccfaaGreatCurveNoneC27
namespace Go.Proofs.YtppijhcfodccfaaGreat
open Go.RowKit Go.Shelf

set_option maxHeartbeats 8000000 in
set_option maxRecDepth 100000 in
theorem awake_any (w : World) : Calls Tryz.prog 12 #[] w fun e w' => e = .returned (.bool true) ∧ Below w.heap.size w w' := by
  go_enter Tryz.func12, Tryz.ntmps12
  refine wp_seqH (fun K0 HK0 => ?_)
  go_wp2_with fail
  refine HK0.out _ _ ?_
  clear HK0 K0
  refine wp_seqH (fun K1 HK1 => ?_)
  refine wp_region_list ?_
  refine wpList_oper rfl (fun K hK => ?_)
  refine wp_callG (av := #[]) _ _ 7 rfl rfl (by simp only [List.map_toArray, List.map_nil]) (enters_of Tryz.func13 (by kernel_rfl) rfl) (C4.make_any _) ?_
  rintro e x1 ⟨⟨c, rfl, hc1, hM⟩, hb1⟩
  refine ⟨_, rfl, hK _ _ ?_⟩
  clear hK K
  simp only [List.set_cons_succ, List.set_cons_zero]
  have HM := hideP hM
  have HB1 := hideP hb1
  clear hM hb1
  refine wpList_oper rfl (fun K hK => ?_)
  go_simp
  refine hK _ _ ?_
  clear hK K
  refine wpList_nil ?_
  refine HK1.out _ _ ?_
  clear HK1 K1
  refine wp_seqH (fun K2 HK2 => ?_)
  refine wp_seqH (fun K1 HK1 => ?_)
  refine wp_region_list ?_
  refine wpList_oper rfl (fun K hK => ?_)
  go_simp
  refine hK _ _ ?_
  clear hK K
  refine wpList_oper rfl (fun K hK => ?_)
  go_simp
  refine hK _ _ ?_
  clear hK K
  refine wpList_oper rfl (fun K hK => ?_)
  go_simp
  refine hK _ _ ?_
  clear hK K
  refine wpList_on (by kernel_rfl) (fun K hK => ?_)
  refine wp_callG (av := #[]) _ _ 11 rfl rfl (by simp only [List.map_toArray, List.map_nil]) (enters_of Tryz.func14 (by kernel_rfl) rfl) (C6.make_any _) ?_
  rintro e x2 ⟨⟨c', rfl, hc2, _⟩, hb2⟩
  refine ⟨_, rfl, hK _ _ ?_⟩
  clear hK K
  simp only [List.set_cons_succ, List.set_cons_zero]
  have HM2 := hideP (HM.out.below hb2)
  have HB2 := hideP (HB1.out.trans (hb2.mono HB1.out.size))
  clear HM HB1 hb2
  refine wpList_on (by kernel_rfl) (fun K hK => ?_)
  go_simp
  refine hK _ _ ?_
  clear hK K
  refine wpList_oper rfl (fun K hK => ?_)
  go_simp
  refine hK _ _ ?_
  clear hK K
  refine wpList_nil ?_
  refine HK1.out _ _ ?_
  clear HK1 K1
  refine wp_cond_false rfl ?_
  refine wp_skip ?_
  refine HK2.out _ _ ?_
  clear HK2 K2
  refine wp_seqH (fun K1 HK1 => ?_)
  refine wp_region_list ?_
  refine wpList_oper rfl (fun K hK => ?_)
  go_simp
  refine hK _ _ ?_
  clear hK K
  refine wpList_oper rfl (fun K hK => ?_)
  go_simp
  refine hK _ _ ?_
  clear hK K
  obtain ⟨r, g1, g2, _, hC, _⟩ := HM2.out.ex
  obtain ⟨f1, f2, f3, f4⟩ := fits_base
  refine wpList_oper rfl (fun K hK => ?_)
  refine wp_callD (av := #[.pointer (some ⟨c, 0, none⟩)]) _ _ 17 rfl rfl (by simp only [List.map_toArray, List.map_cons, List.map_nil]; rfl) (enters_of Tryz.func16 (by kernel_rfl) rfl) (P4.Base_any hC) ?_
  intro x3 hb3
  refine hK _ _ ?_
  clear hK K
  simp only [List.set_cons_succ, List.set_cons_zero]
  refine wpList_oper rfl (fun K hK => ?_)
  refine P4.wp_buildD 65 _ #[(0, .int .u64 2)] 18 rfl rfl (by simp only [List.map_toArray, List.map_cons, List.map_nil]; rfl) (v := .agg (W4.cs (limb 2))) (by kernel_rfl) ?_
  refine hK _ _ ?_
  clear hK K
  simp only [List.set_cons_succ, List.set_cons_zero]
  refine wpList_oper rfl (fun K hK => ?_)
  have hmul := P4.Mul_any (hC.below hb3) P4.cX P4.cY f1 f2 false 2 (by decide)
  rw [mul_2, good_base] at hmul
  refine wp_callD (av := #[.pointer (some ⟨c, 0, none⟩), .agg (P4.pt P4.cX P4.cY false), .agg (W4.cs (limb 2))]) _ _ 19 rfl rfl (by simp only [List.map_toArray, List.map_cons, List.map_nil]; rfl) (enters_of Tryz.func43 (by kernel_rfl) rfl) hmul ?_
  clear hmul
  intro x4 hb4
  refine hK _ _ ?_
  clear hK K
  simp only [List.set_cons_succ, List.set_cons_zero]
  have h24 : Below x2.heap.size x2 x4 := hb3.trans (hb4.mono hb3.size)
  have HC4 := hideP (hC.below h24)
  have HB4 := hideP (HB2.out.trans (h24.mono HB2.out.size))
  clear hC hb3 hb4 h24 HB2 HM2
  refine wpList_oper rfl (fun K hK => ?_)
  go_simp
  refine hK _ _ ?_
  clear hK K
  refine wpList_oper rfl (fun K hK => ?_)
  go_simp
  refine hK _ _ ?_
  clear hK K
  refine wpList_oper rfl (fun K hK => ?_)
  go_simp
  refine hK _ _ ?_
  clear hK K
  refine wpList_oper rfl (fun K hK => ?_)
  go_simp
  refine hK _ _ ?_
  clear hK K
  refine at_worldL (fun x4a hx => ?_)
  have hbn : ∃ C : Array Value, x4a.heap[x4.heap.size]? = some (.cells C 34 (0, 0)) ∧ C.size = 9 := by
    rw [hx]
    exact ⟨_, heap_new _ _, rfl⟩
  have hbe : Below x4.heap.size x4 x4a := by
    rw [hx]
    exact (Below.refl _ _).alloc (Nat.le_refl _) _
  clear hx
  obtain ⟨Cn, hbn, hsn⟩ := hbn
  have hQ := KQ.start hbn hsn
  refine wpList_store_midD rfl 34 (.tmp 2) (.tmp 20) rfl rfl x4.heap.size 0 (P4.pt dx2 dy2 false) rfl rfl (hQ.there (P4.pt_size _ _ _)) (P4.infoA (P4.pt_size _ _ _)) (P4.pt_one _ _ _) ?_
  have gn := hQ.put (C := P4.pt dx2 dy2 false) (P4.pt_size _ _ _)
  have hQ2 := hQ.store (C := P4.pt dx2 dy2 false) (P4.pt_size _ _ _)
  generalize World.setCells x4a x4.heap.size 0 (P4.pt dx2 dy2 false).toList = x4b at gn hQ2 ⊢
  have hbs : Below x4.heap.size x4 x4b := hbe.trans hQ2.below
  have Gp := hideP gn
  clear hQ hQ2 hbn hbe gn hsn
  have HC5 := hideP (HC4.out.below hbs)
  have HB5 := hideP (HB4.out.trans (hbs.mono HB4.out.size))
  generalize x4.heap.size = L at *
  clear hbs HC4 HB4
  refine wpList_oper rfl (fun K hK => ?_)
  go_simp
  refine hK _ _ ?_
  clear hK K
  refine wpList_nil ?_
  refine HK1.out _ _ ?_
  clear HK1 K1
  refine wp_seqH (fun K1 HK1 => ?_)
  refine wp_region_list ?_
  have lL := lt_of_block Gp.out
  refine wpList_load_midD rfl 34 (.tmp 2) 22 rfl rfl L 0 (P4.pt dx2 dy2 false) rfl _ (rangeOf Gp.out) P4.underA rfl (P4.infoA (P4.pt_size _ _ _)) ?_
  simp only [List.set_cons_succ, List.set_cons_zero]
  refine wpList_oper rfl (fun K hK => ?_)
  refine wp_callG (av := #[.agg (P4.pt dx2 dy2 false)]) _ _ 23 rfl rfl (by simp only [List.map_toArray, List.map_cons, List.map_nil]; rfl) (enters_of Tryz.func60 (by kernel_rfl) rfl) (write1_no dx2 dy2 _) ?_
  rintro e x5 ⟨⟨bb, cap, rfl, hbl, hBS⟩, hb5⟩
  refine ⟨_, rfl, hK _ _ ?_⟩
  clear hK K
  simp only [List.set_cons_succ, List.set_cons_zero]
  have Gp5 := hideP ((hb5.block _ lL).trans Gp.out)
  have HC6 := hideP (HC5.out.below hb5)
  have HB6 := hideP (HB5.out.trans (hb5.mono HB5.out.size))
  have HBS := hideP hBS
  have lL5 := lt_of_block Gp5.out
  clear Gp HC5 HB5 hb5 hBS hbl lL
  refine wpList_oper rfl (fun K hK => ?_)
  go_simp
  refine hK _ _ ?_
  clear hK K
  refine wpList_nil ?_
  refine HK1.out _ _ ?_
  clear HK1 K1
  refine wp_seqH (fun K1 HK1 => ?_)
  refine wp_region_list ?_
  refine wpList_oper rfl (fun K hK => ?_)
  refine wp_makeD 93 _ _ 25 rfl rfl rfl rfl (make_bytes2 x5 63 (by omega)) ?_
  refine hK _ _ ?_
  clear hK K
  simp only [List.set_cons_succ, List.set_cons_zero]
  refine at_worldL (fun x6 hx6 => ?_)
  have hrow : x6.heap[x5.heap.size]? = some (.cells (cb 63 (fun _ => 0)) 5 (0, 0)) := by
    rw [hx6]
    exact heap_new _ _
  have hb6 : Below x5.heap.size x5 x6 := by
    rw [hx6]
    exact (Below.refl _ _).alloc (Nat.le_refl _) _
  clear hx6
  have hwM := HB6.out.size
  have lM := lt_of_block hrow
  generalize hM : x5.heap.size = M at *
  refine wpList_oper rfl (fun K hK => ?_)
  go_simp
  refine hK _ _ ?_
  clear hK K
  refine at_worldL (fun x7 hx7 => ?_)
  have hone : x7.heap[x6.heap.size]? = some (.cells (cb 1 (fun _ => 1)) 5 (0, 0)) := by
    rw [hx7]
    exact heap_new _ _
  have hb7 : Below x6.heap.size x6 x7 := by
    rw [hx7]
    exact (Below.refl _ _).alloc (Nat.le_refl _) _
  clear hx7
  have hrow7 := (hb7.block _ (lt_of_block hrow)).trans hrow
  have hM0 : M ≤ x6.heap.size := Nat.le_of_lt lM
  have hs7 := hb7.size
  generalize x6.heap.size = M1 at *
  obtain ⟨b9, cap9, x8, hr, hbl, hBS9, hb8⟩ := append_full (f := fun _ => 0) (f2 := fun _ => 1) (n := 63) (n2 := 1) (c2 := 1) 93 (fun j => by omega) hrow7 (by omega) (by omega) (by omega) (row_BS2 (fun j => by omega) (by omega) hone)
  refine wpList_oper rfl (fun K hK => ?_)
  refine wp_appendD (.tmp 25) (.tmp 26) 27 rfl rfl rfl rfl hr ?_
  refine hK _ _ ?_
  clear hK K hr
  simp only [List.set_cons_succ, List.set_cons_zero]
  have hM1 : M ≤ M1 := hM0
  have h78 : Below M1 x6 x8 := hb7.trans (hb8.mono hs7)
  have h58 : Below M x5 x8 := hb6.trans (h78.mono hM1)
  have hBSr : BS x8 (some ⟨b9, 0, none⟩) 64 cap9 (beh 63 (fun _ => 0) (fun _ => 1)) := hBS9
  have hread := read1_any 71 (Or.inr (Or.inr rfl)) x8 hBSr one_bad
  rw [if_neg (by decide)] at hread
  have Gp8 := hideP ((h58.block _ lL5).trans Gp5.out)
  have HC8 := hideP (HC6.out.below (hM ▸ h58))
  have HB8 := hideP (HB6.out.trans (h58.mono hwM))
  have HBS8 := hideP (HBS.out.moved (hM ▸ h58))
  clear Gp5 HC6 HB6 HBS h58 h78 hb6 hb7 hb8 hrow hrow7 hone hBS9 hbl
  refine wpList_oper rfl (fun K hK => ?_)
  refine wp_callD (av := #[.slice (some ⟨b9, 0, none⟩) 64 cap9]) _ _ 28 rfl rfl (by simp only [List.map_toArray, List.map_cons, List.map_nil]; rfl) (enters_of Tryz.func58 (by kernel_rfl) rfl) hread ?_
  intro x9 hb9
  refine hK _ _ ?_
  clear hK K hread hBSr
  simp only [List.set_cons_succ, List.set_cons_zero]
  have lL8 := lt_of_block Gp8.out
  have Gp9 := hideP ((hb9.block _ lL8).trans Gp8.out)
  have HC9 := hideP (HC8.out.below hb9)
  have HB9 := hideP (HB8.out.trans (hb9.mono HB8.out.size))
  have HBS9 := hideP (HBS8.out.moved hb9)
  have lL9 := lt_of_block Gp9.out
  clear Gp8 HC8 HB8 HBS8 hb9 lL8
  refine wpList_oper rfl (fun K hK => ?_)
  go_simp
  refine hK _ _ ?_
  clear hK K
  refine wpList_oper rfl (fun K hK => ?_)
  go_simp
  refine hK _ _ ?_
  clear hK K
  refine wpList_oper rfl (fun K hK => ?_)
  go_simp
  refine hK _ _ ?_
  clear hK K
  refine wpList_oper rfl (fun K hK => ?_)
  go_simp
  refine hK _ _ ?_
  clear hK K
  refine at_worldL (fun x9a hx => ?_)
  have hbn : ∃ C : Array Value, x9a.heap[x9.heap.size]? = some (.cells C 34 (0, 0)) ∧ C.size = 9 := by
    rw [hx]
    exact ⟨_, heap_new _ _, rfl⟩
  have hbe : Below x9.heap.size x9 x9a := by
    rw [hx]
    exact (Below.refl _ _).alloc (Nat.le_refl _) _
  clear hx
  obtain ⟨Cn, hbn, hsn⟩ := hbn
  have hQ := KQ.start hbn hsn
  refine wpList_store_midD rfl 34 (.tmp 5) (.tmp 29) rfl rfl x9.heap.size 0 (P4.pt 0 0 false) rfl rfl (hQ.there (P4.pt_size _ _ _)) (P4.infoA (P4.pt_size _ _ _)) (P4.pt_one _ _ _) ?_
  have gn := hQ.put (C := P4.pt 0 0 false) (P4.pt_size _ _ _)
  have hQ2 := hQ.store (C := P4.pt 0 0 false) (P4.pt_size _ _ _)
  generalize World.setCells x9a x9.heap.size 0 (P4.pt 0 0 false).toList = x9b at gn hQ2 ⊢
  have hbs : Below x9.heap.size x9 x9b := hbe.trans hQ2.below
  have Gq := hideP gn
  clear hQ hQ2 hbn hbe gn hsn
  have Gp10 := hideP ((hbs.block _ lL9).trans Gp9.out)
  have HC10 := hideP (HC9.out.below hbs)
  have HB10 := hideP (HB9.out.trans (hbs.mono HB9.out.size))
  have HBS10 := hideP (HBS9.out.moved hbs)
  clear Gp9 HC9 HB9 HBS9 hbs Gq
  refine wpList_oper rfl (fun K hK => ?_)
  go_simp
  refine hK _ _ ?_
  clear hK K
  refine wpList_nil ?_
  refine HK1.out _ _ ?_
  clear HK1 K1
  obtain ⟨w1, w2, w3⟩ := wr_2
  have c1 : x9b.cell? ⟨bb, 1, none⟩ = some (.int .u8 6) := by
    obtain ⟨ad, e, h⟩ := HBS10.out.cell 1 (by omega)
    cases e
    rw [add_nil, w1] at h
    exact h
  have c2 : x9b.cell? ⟨bb, 2, none⟩ = some (.int .u8 68) := by
    obtain ⟨ad, e, h⟩ := HBS10.out.cell 2 (by omega)
    cases e
    rw [add_nil, w2] at h
    exact h
  have c3 : x9b.cell? ⟨bb, 63, none⟩ = some (.int .u8 196) := by
    obtain ⟨ad, e, h⟩ := HBS10.out.cell 63 (by omega)
    cases e
    rw [add_nil, w3] at h
    exact h
  clear w1 w2 w3
  refine wp_seqH (fun K1 HK1 => ?_)
  refine wp_region_list ?_
  refine wpList_oper rfl (fun K hK => ?_)
  go_simp
  refine hK _ _ ?_
  clear hK K
  refine wpList_oper rfl (fun K hK => ?_)
  go_simp
  refine hK _ _ ?_
  clear hK K
  refine wpList_oper rfl (fun K hK => ?_)
  go_simp
  refine hK _ _ ?_
  clear hK K
  refine wpList_on (by kernel_rfl) (fun K hK => ?_)
  go_simp
  refine hK _ _ ?_
  clear hK K
  refine wpList_on (by kernel_rfl) (fun K hK => ?_)
  go_simp
  refine hK _ _ ?_
  clear hK K
  refine wpList_on (by kernel_rfl) (fun K hK => ?_)
  go_simp
  refine hK _ _ ?_
  clear hK K
  refine wpList_oper rfl (fun K hK => ?_)
  go_simp
  refine hK _ _ ?_
  clear hK K
  refine wpList_oper rfl (fun K hK => ?_)
  go_simp
  refine hK _ _ ?_
  clear hK K
  refine wpList_on (by kernel_rfl) (fun K hK => ?_)
  go_simp
  refine hK _ _ ?_
  clear hK K
  refine wpList_on (by kernel_rfl) (fun K hK => ?_)
  go_simp
  refine hK _ _ ?_
  clear hK K
  refine wpList_on (by kernel_rfl) (fun K hK => ?_)
  go_simp
  refine hK _ _ ?_
  clear hK K
  refine wpList_on (by kernel_rfl) (fun K hK => ?_)
  go_simp
  refine hK _ _ ?_
  clear hK K
  refine wpList_oper rfl (fun K hK => ?_)
  go_simp
  refine hK _ _ ?_
  clear hK K
  refine wpList_oper rfl (fun K hK => ?_)
  go_simp
  refine hK _ _ ?_
  clear hK K
  refine wpList_on (by kernel_rfl) (fun K hK => ?_)
  go_simp
  refine hK _ _ ?_
  clear hK K
  refine wpList_on (by kernel_rfl) (fun K hK => ?_)
  go_simp
  refine hK _ _ ?_
  clear hK K
  refine wpList_on (by kernel_rfl) (fun K hK => ?_)
  go_simp
  refine hK _ _ ?_
  clear hK K
  refine wpList_on (by kernel_rfl) (fun K hK => ?_)
  go_simp
  refine hK _ _ ?_
  clear hK K
  refine wpList_oper rfl (fun K hK => ?_)
  go_simp
  refine hK _ _ ?_
  clear hK K
  refine wpList_oper rfl (fun K hK => ?_)
  go_simp
  refine hK _ _ ?_
  clear hK K
  refine wpList_on (by kernel_rfl) (fun K hK => ?_)
  go_simp
  refine hK _ _ ?_
  clear hK K
  refine wpList_on (by kernel_rfl) (fun K hK => ?_)
  go_simp
  refine hK _ _ ?_
  clear hK K
  refine wpList_on (by kernel_rfl) (fun K hK => ?_)
  go_simp
  refine hK _ _ ?_
  clear hK K
  refine wpList_on (by kernel_rfl) (fun K hK => ?_)
  go_simp
  refine hK _ _ ?_
  clear hK K
  refine wpList_oper rfl (fun K hK => ?_)
  go_simp
  refine hK _ _ ?_
  clear hK K
  refine wpList_oper rfl (fun K hK => ?_)
  go_simp
  refine hK _ _ ?_
  clear hK K
  refine wpList_on (by kernel_rfl) (fun K hK => ?_)
  go_simp
  refine hK _ _ ?_
  clear hK K
  refine wpList_on (by kernel_rfl) (fun K hK => ?_)
  go_simp
  refine hK _ _ ?_
  clear hK K
  refine wpList_oper rfl (fun K hK => ?_)
  go_simp
  refine hK _ _ ?_
  clear hK K
  refine wpList_oper rfl (fun K hK => ?_)
  go_simp
  refine hK _ _ ?_
  clear hK K
  refine wpList_on (by kernel_rfl) (fun K hK => ?_)
  go_simp
  refine hK _ _ ?_
  clear hK K
  refine wpList_on (by kernel_rfl) (fun K hK => ?_)
  refine wp_load_midD 34 (.tmp 2) 62 rfl rfl L 0 (P4.pt dx2 dy2 false) rfl _ (rangeOf Gp10.out) P4.underA rfl (by rw [Array.length_toList]; exact P4.infoA (P4.pt_size _ _ _)) ?_
  refine hK _ _ ?_
  clear hK K
  simp only [List.set_cons_succ, List.set_cons_zero]
  have hgd := P4.Good_any HC10.out dx2 dy2 f3 f4 false
  rw [good_2] at hgd
  refine wpList_on (by kernel_rfl) (fun K hK => ?_)
  refine wp_call2D (.tmp 61) (.tmp 62) _ 63 rfl rfl rfl rfl (enters_of Tryz.func35 (by kernel_rfl) rfl) hgd ?_
  intro x10 hb10
  refine hK _ _ ?_
  clear hK K hgd
  simp only [List.set_cons_succ, List.set_cons_zero]
  have Gp11 := hideP ((hb10.block _ (lt_of_block Gp10.out)).trans Gp10.out)
  have HB11 := hideP (HB10.out.trans (hb10.mono HB10.out.size))
  clear Gp10 HB10 HC10 HBS10 hb10 c1 c2 c3
  refine wpList_on (by kernel_rfl) (fun K hK => ?_)
  go_simp
  refine hK _ _ ?_
  clear hK K
  refine wpList_oper rfl (fun K hK => ?_)
  go_simp
  refine hK _ _ ?_
  clear hK K
  refine wpList_oper rfl (fun K hK => ?_)
  go_simp
  refine hK _ _ ?_
  clear hK K
  refine wpList_on (by kernel_rfl) (fun K hK => ?_)
  go_simp
  refine hK _ _ ?_
  clear hK K
  refine wpList_on (by kernel_rfl) (fun K hK => ?_)
  have hf := P4.pt_i Gp11.out
  go_simp
  refine hK _ _ ?_
  clear hK K hf
  refine wpList_on (by kernel_rfl) (fun K hK => ?_)
  go_simp
  refine hK _ _ ?_
  clear hK K
  refine wpList_oper rfl (fun K hK => ?_)
  go_simp
  refine hK _ _ ?_
  clear hK K
  refine wpList_oper rfl (fun K hK => ?_)
  go_simp
  refine hK _ _ ?_
  clear hK K
  refine wpList_nil ?_
  refine HK1.out _ _ ?_
  clear HK1 K1
  refine wp_ret ?_
  exact bodyPost_ret_by (results_tmp rfl _ _ _) rfl ⟨rfl, HB11.out⟩

end Go.Proofs.YtppijhcfodccfaaGreat

namespace Go.Proofs.YtppijhcfodccfaaGreat
open Go.RowKit Go.Shelf

/-- The two curves of the loop. -/
def vv (Z n : Nat) : Value := if n = 0 then .pointer none else .pointer (some ⟨Z, 0, none⟩)

/-- The row of the two. -/
structure LC (w : World) (R Z M : Nat) : Prop where
  row : w.heap[R]? = some (.cells #[.pointer none, .pointer (some ⟨Z, 0, none⟩)] 23 (0, 0))
  zc : w.heap[Z]? = some (.cells #[.pointer none, .pointer none, .pointer none] 117 (0, 0))
  r : R < M
  z : Z < M
  le : M ≤ w.heap.size

theorem LC.below {w w' : World} {R Z M : Nat} (h : LC w R Z M) (hb : Below w.heap.size w w') : LC w' R Z M :=
  ⟨(hb.block _ (lt_of_block h.row)).trans h.row, (hb.block _ (lt_of_block h.zc)).trans h.zc, h.r, h.z, Nat.le_trans h.le hb.size⟩

theorem LC.kq {W V : World} {R0 n ty R Z M : Nat} (h : LC W R Z M) (hS : KQ W R0 n ty V) (h1 : M ≤ R0) : LC V R Z M := by
  have h2 := h.r
  have h3 := h.z
  exact ⟨(hS.same _ (lt_of_block h.row) (by omega)).trans h.row, (hS.same _ (lt_of_block h.zc) (by omega)).trans h.zc, h.r, h.z, Nat.le_trans h.le hS.size⟩

theorem LC.nc {w : World} {R Z M : Nat} (h : LC w R Z M) (n : Nat) : NC w (vv Z n) M := by
  refine ⟨h.le, ?_⟩
  unfold vv
  split
  · exact .inl rfl
  · exact .inr ⟨Z, h.z, rfl, h.zc⟩

theorem LC.cell {w : World} {R Z M : Nat} (h : LC w R Z M) {n : Nat} (hn : n < 2) : w.cell? ⟨R, n, none⟩ = some (vv Z n) := by
  match n, hn with
  | 0, _ => exact blk_cell h.row rfl
  | 1, _ => exact blk_cell h.row rfl

theorem part_cell {P : Program} {t : TypeId} {w : World} {C : Array Value} {off : Nat} {d : TypeDesc} {v : Value} (hu : P.underlying t = some d) (hd : d.isRow = false) (hv : C[off]? = some v) : (part t C off).run P w = .ok v w := by
  have hagg : (isAgg t).run P w = .ok false w := by
    unfold isAgg
    rw [Sem.run_bind, run_underlying hu w]
    cases d <;> simp_all
  unfold part
  simp only [Sem.run_bind, hagg, Result.andThen]
  simp [hv]

theorem pt4_i (x y : Nat) (i : Bool) : (P4.pt x y i)[8]? = some (.bool i) := by
  rw [P4.pt_eq, Array.getElem?_append_right (by rw [P4.nv_size]; omega), Array.getElem?_append_right (by rw [P4.nv_size, P4.nv_size]; omega), P4.nv_size, P4.nv_size]
  rfl

theorem pt8_i (x y : Q4.K) (i : Bool) : (Q4.pt x y i)[16]? = some (.bool i) := by
  rw [Q4.pt_eq, Array.getElem?_append_right (by rw [Q4.nv_size]; omega), Array.getElem?_append_right (by rw [Q4.nv_size, Q4.nv_size]; omega), Q4.nv_size, Q4.nv_size]
  rfl

theorem undBool : Tryz.prog.underlying 4 = some .bool := by kernel_rfl

theorem field4 (x y : Nat) (i : Bool) (w : World) : (Instr.field 34 (.agg (P4.pt x y i)) 2).run Tryz.prog w = .ok (.bool i) w := by
  have hf : (fsOf (Tryz.prog.underlying 34))[2]? = some ((fsOf (Tryz.prog.underlying 34))[2]!) := by kernel_rfl
  have ht : ((fsOf (Tryz.prog.underlying 34))[2]!).type = 4 := by kernel_rfl
  have ho : ((fsOf (Tryz.prog.underlying 34))[2]!).offset = 8 := by kernel_rfl
  unfold Instr.field
  simp only [Sem.run_bind, run_underlying P4.underA, Result.andThen, hf, asAgg, Sem.run_pure, ht, ho]
  exact part_cell undBool rfl (pt4_i x y i)

theorem field8 (x y : Q4.K) (i : Bool) (w : World) : (Instr.field 49 (.agg (Q4.pt x y i)) 2).run Tryz.prog w = .ok (.bool i) w := by
  have hf : (fsOf (Tryz.prog.underlying 49))[2]? = some ((fsOf (Tryz.prog.underlying 49))[2]!) := by kernel_rfl
  have ht : ((fsOf (Tryz.prog.underlying 49))[2]!).type = 4 := by kernel_rfl
  have ho : ((fsOf (Tryz.prog.underlying 49))[2]!).offset = 16 := by kernel_rfl
  unfold Instr.field
  simp only [Sem.run_bind, run_underlying Q4.underA, Result.andThen, hf, asAgg, Sem.run_pure, ht, ho]
  exact part_cell undBool rfl (pt8_i x y i)

theorem wp_fieldD {P : Program} {op : Oper} {l : List Value} {ds : List Deferred} {w : World} {K : Act → World → Prop} {Q : Exit → Act → World → Prop} (t : TypeId) (x : Operand) (j d : Nat) (ho : op.op = .field t x j) (hd : op.dst = some d) {xv v : Value}
    (hx : Act.eval { tmps := l.toArray, defers := ds } x = xv) (hr : (Instr.field t xv j).run P w = .ok v w)
    (h : K { tmps := (l.set d v).toArray, defers := ds } w) : op.wp P { tmps := l.toArray, defers := ds } w K Q := by
  have hk : K (Act.put { tmps := l.toArray, defers := ds } op.dst v) w := by rw [hd, put_list]; exact h
  unfold Oper.wp
  simp [execOp, ho, hx, hr, Result.andThen]
  exact hk

end Go.Proofs.YtppijhcfodccfaaGreat
