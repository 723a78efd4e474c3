/-
  A group's base, as a curve has it.
-/
import Derived.Test.YtppijhcfodccfaaGreatCurveNoneC29
import Derived.Test.YtppijhcfodccfaaGreatCurveNoneC31
import Derived.Test.YtppijhcfodccfaaGreatCurveNoneC28
import Derived.Test.YtppijhcfodccfaaGreatCurveNoneC23
import Derived.Test.YtppijhcfodccfaaGreatCurveNoneC04
namespace Go.Proofs.YtppijhcfodccfaaGreat.C4
open Go.RowKit Go.Shelf

/-- A curve that was made: the ring and both groups. -/
structure Made (w : World) (c : Nat) : Prop where
  ex : ∃ r g1 g2, w.cell? ⟨c, 0, none⟩ = some (.pointer (some ⟨r, 0, none⟩)) ∧ P4.CAt w c g1 r nBnP P4.cB P4.cX P4.cY nBnR ∧ Q4.CAt w c g2 r nBnP Q4.cB Q4.cX Q4.cY nBnR

theorem Made.below {w w' : World} {c : Nat} (h : Made w c) (hb : Below w.heap.size w w') : Made w' c := by
  obtain ⟨r, g1, g2, h0, h1, h2⟩ := h.ex
  exact ⟨r, g1, g2, (hb.cell (p := ⟨c, 0, none⟩) h1.clt).trans h0, h1.below hb, h2.below hb⟩

theorem Made.lt {w : World} {c : Nat} (h : Made w c) : c < w.heap.size := by
  obtain ⟨r, g1, g2, h0, h1, h2⟩ := h.ex
  exact h1.clt

set_option maxRecDepth 100000 in
theorem build_sq (r : Nat) (w : World) : (Instr.build 131 #[(0, .pointer (some ⟨r, 0, none⟩))]).run Tryz.prog w = .ok (.agg #[.pointer (some ⟨r, 0, none⟩)]) w := by kernel_rfl

set_option maxRecDepth 100000 in
theorem build_c (r g1 g2 : Nat) (w : World) : (Instr.build 117 #[(0, .pointer (some ⟨r, 0, none⟩)), (1, .pointer (some ⟨g1, 0, none⟩)), (2, .pointer (some ⟨g2, 0, none⟩))]).run Tryz.prog w = .ok (.agg #[.pointer (some ⟨r, 0, none⟩), .pointer (some ⟨g1, 0, none⟩), .pointer (some ⟨g2, 0, none⟩)]) w := by kernel_rfl

set_option maxHeartbeats 4000000 in
set_option maxRecDepth 100000 in
theorem make_any (w : World) : Calls Tryz.prog 13 #[] w fun e w' => (∃ c, e = .returned (.pointer (some ⟨c, 0, none⟩)) ∧ w.heap.size ≤ c ∧ Made w' c) ∧ Below w.heap.size w w' := by
  go_enter Tryz.func13, Tryz.ntmps13
  refine wp_seqH (fun K0 HK0 => ?_)
  go_wp2_with fail
  refine HK0.out _ _ ?_
  clear HK0 K0
  refine wp_seqH (fun K1 HK1 => ?_)
  refine wp_region_list ?_
  refine wpList_oper rfl (fun K hK => ?_)
  refine wp_callD (av := #[]) _ _ 4 rfl rfl (by simp only [List.map_toArray, List.map_nil]) (enters_of Tryz.func72 (by kernel_rfl) rfl) (fBnP_any _) ?_
  intro x1 hb1
  refine hK _ _ ?_
  clear hK K
  simp only [List.set_cons_succ, List.set_cons_zero]
  refine wpList_oper rfl (fun K hK => ?_)
  refine wp_callG (av := #[.agg (W4.cs (limb nBnP))]) _ _ 5 rfl rfl (by simp only [List.map_toArray, List.map_cons, List.map_nil]; rfl) (enters_of Tryz.func71 (by kernel_rfl) rfl) (W4.make_ok nBnP (by decide +kernel) (by decide +kernel) (by decide +kernel) x1) ?_
  rintro e x2 ⟨r, rfl, hr1, hgood, hb2⟩
  refine ⟨_, rfl, hK _ _ ?_⟩
  clear hK K
  simp only [List.set_cons_succ, List.set_cons_zero]
  have hB2 : Below w.heap.size w x2 := hb1.trans (hb2.mono hb1.size)
  have hFA : P4.FAt x2 r nBnP := by
    obtain ⟨f, h1, h2⟩ := hgood.ex
    exact ⟨hgood, h2.lt⟩
  have hr0 : w.heap.size ≤ r := Nat.le_trans hb1.size hr1
  have HF := hideP hFA
  have HB2 := hideP hB2
  clear hgood hFA hB2 hb1 hb2 hr1
  iterate 5
    refine wpList_oper rfl (fun K hK => ?_)
    go_simp
    refine hK _ _ ?_
    clear hK K
  refine wpList_nil ?_
  refine HK1.out _ _ ?_
  clear HK1 K1
  refine wp_seqH (fun K1 HK1 => ?_)
  refine wp_region_list ?_
  iterate 3
    refine wpList_oper rfl (fun K hK => ?_)
    go_simp
    refine hK _ _ ?_
    clear hK K
  refine wpList_oper rfl (fun K hK => ?_)
  refine wp_callD (av := #[]) _ _ 11 rfl rfl (by simp only [List.map_toArray, List.map_nil]) (enters_of Tryz.func74 (by kernel_rfl) rfl) (P4.terms_any _) ?_
  intro x3 hb3
  refine hK _ _ ?_
  clear hK K
  simp only [List.set_cons_succ, List.set_cons_zero]
  refine wpList_oper rfl (fun K hK => ?_)
  refine wp_callG (av := #[P4.ifv r, .agg (P4.te P4.k1 P4.cB P4.cX P4.cY nBnR)]) _ _ 12 rfl rfl (by simp only [List.map_toArray, List.map_cons, List.map_nil]; rfl) (enters_of Tryz.func73 (by kernel_rfl) rfl) (P4.newGroup_any (HF.out.below hb3) _ _ _ _ (by unfold P4.Fits; decide +kernel) (by unfold P4.Fits; decide +kernel)) ?_
  rintro e x4 ⟨⟨g1, rfl, hg1, ga1, gb1⟩, hb4⟩
  refine ⟨_, rfl, hK _ _ ?_⟩
  clear hK K
  simp only [List.set_cons_succ, List.set_cons_zero]
  have h24 : Below x2.heap.size x2 x4 := hb3.trans (hb4.mono hb3.size)
  have hF4 := HF.out.below h24
  have HG1 := hideP (And.intro ga1 gb1)
  clear ga1 gb1 hb3 hb4 hg1
  refine wpList_oper rfl (fun K hK => ?_)
  go_simp
  refine hK _ _ ?_
  clear hK K
  refine wpList_oper rfl (fun K hK => ?_)
  refine P4.wp_buildD 131 _ #[(0, .pointer (some ⟨r, 0, none⟩))] 14 rfl rfl (by simp only [List.map_toArray, List.map_cons, List.map_nil]; rfl) (v := .agg #[.pointer (some ⟨r, 0, none⟩)]) (build_sq r _) ?_
  refine hK _ _ ?_
  clear hK K
  simp only [List.set_cons_succ, List.set_cons_zero]
  refine wpList_oper rfl (fun K hK => ?_)
  go_simp
  refine hK _ _ ?_
  clear hK K
  refine wpList_oper rfl (fun K hK => ?_)
  refine wp_callD (av := #[]) _ _ 16 rfl rfl (by simp only [List.map_toArray, List.map_nil]) (enters_of Tryz.func76 (by kernel_rfl) rfl) (Q4.terms_any _) ?_
  intro x5 hb5
  refine hK _ _ ?_
  clear hK K
  simp only [List.set_cons_succ, List.set_cons_zero]
  have hF5 := hF4.below hb5
  refine wpList_oper rfl (fun K hK => ?_)
  refine wp_callG (av := #[Q4.ifv r, .agg (Q4.te Q4.k1 Q4.cB Q4.cX Q4.cY nBnR)]) _ _ 17 rfl rfl (by simp only [List.map_toArray, List.map_cons, List.map_nil]; rfl) (enters_of Tryz.func75 (by kernel_rfl) rfl) (Q4.newGroup_any ⟨hF5.ok, hF5.plt⟩ _ _ _ _ (by unfold Q4.Fits P4.Fits; decide +kernel) (by unfold Q4.Fits P4.Fits; decide +kernel)) ?_
  rintro e x6 ⟨⟨g2, rfl, hg2, ga2, gb2⟩, hb6⟩
  refine ⟨_, rfl, hK _ _ ?_⟩
  clear hK K
  simp only [List.set_cons_succ, List.set_cons_zero]
  have h46 : Below x4.heap.size x4 x6 := hb5.trans (hb6.mono hb5.size)
  have HG2 := hideP (And.intro ga2 gb2)
  clear ga2 gb2 hb5 hb6 hg2 hF5 hF4
  refine wpList_oper rfl (fun K hK => ?_)
  refine P4.wp_buildD 117 _ #[(0, .pointer (some ⟨r, 0, none⟩)), (1, .pointer (some ⟨g1, 0, none⟩)), (2, .pointer (some ⟨g2, 0, none⟩))] 18 rfl rfl (by simp only [List.map_toArray, List.map_cons, List.map_nil]; rfl) (build_c r g1 g2 _) ?_
  refine hK _ _ ?_
  clear hK K
  simp only [List.set_cons_succ, List.set_cons_zero]
  refine wpList_oper rfl (fun K hK => ?_)
  go_simp
  refine hK _ _ ?_
  clear hK K
  refine at_worldL (fun x7 hx7 => ?_)
  have h7 := heap_new x6 (.cells #[.pointer (some ⟨r, 0, none⟩), .pointer (some ⟨g1, 0, none⟩), .pointer (some ⟨g2, 0, none⟩)] 117 (0, 0))
  have h67 := (Below.refl x6.heap.size x6).alloc (Nat.le_refl _) (.cells #[.pointer (some ⟨r, 0, none⟩), .pointer (some ⟨g1, 0, none⟩), .pointer (some ⟨g2, 0, none⟩)] 117 (0, 0))
  rw [← hx7] at h7 h67
  clear hx7
  have h47 : Below x4.heap.size x4 x7 := h46.trans (h67.mono h46.size)
  have h27 : Below x2.heap.size x2 x7 := h24.trans (h47.mono h24.size)
  have hlc := lt_of_block h7
  have HM : Hid (Made x7 x6.heap.size) := ⟨r, g1, g2, blk_cell h7 rfl, ⟨blk_cell h7 rfl, HG1.out.1.below h47, HG1.out.2.below h47, hlc⟩, ⟨blk_cell h7 rfl, HG2.out.1.below h67, HG2.out.2.below h67, hlc⟩⟩
  have HW : Hid (Below w.heap.size w x7) := HB2.out.trans (h27.mono HB2.out.size)
  have hsz : w.heap.size ≤ x6.heap.size := Nat.le_trans HB2.out.size (Nat.le_trans h24.size h46.size)
  clear h7 h67 h47 h27 h24 h46 HG1 HG2 hlc
  refine wpList_oper rfl (fun K hK => ?_)
  go_simp
  refine hK _ _ ?_
  clear hK K
  refine wpList_nil ?_
  refine HK1.out _ _ ?_
  refine wp_ret ?_
  exact bodyPost_ret_by (results_tmp rfl _ _ _) rfl ⟨⟨x6.heap.size, rfl, hsz, HM.out⟩, HW.out⟩

end Go.Proofs.YtppijhcfodccfaaGreat.C4

namespace Go.Proofs.YtppijhcfodccfaaGreat.P4
open Go.RowKit Go.Shelf

set_option maxHeartbeats 4000000 in
set_option maxRecDepth 100000 in
theorem generator_any {w : World} {c g p m : Nat} {b bx bY : K} {kk : Nat} (hG : CAt w c g p m b bx bY kk) : Calls Tryz.prog 85 #[.pointer (some ⟨g, 0, none⟩)] w fun e w' => e = .returned (.agg (pt bx bY false)) ∧ Below w.heap.size w w' := by
  have hcl := hG.clt
  have hg := hG.ga.glt
  have hp := hG.ga.plt
  have HG9 := hideP hG
  clear hG
  go_enter Tryz.func85, Tryz.ntmps85
  refine wp_seqH (fun K0 HK0 => ?_)
  go_wp2_with fail
  refine HK0.out _ _ ?_
  clear HK0 K0
  refine at_world (fun W0 hW0 => ?_)
  have hbr : ∃ C : Array Value, W0.heap[w.heap.size]? = some (.cells C 125 (0, 0)) ∧ C.size = 9 := by
    rw [hW0]
    exact ⟨_, heap_new _ _, rfl⟩
  have hbw : Below w.heap.size w W0 := by
    rw [hW0]
    repeat first | exact Below.refl _ _ | (refine Below.alloc ?_ (by simp <;> omega) _)
  clear hW0
  have HG := hideP (HG9.out.below hbw)
  clear HG9
  have HBW := hideP hbw
  clear hbw
  generalize hN : w.heap.size = N at *
  clear hN
  obtain ⟨Cr, hbr, s_N⟩ := hbr
  have Hr := hideP hbr
  clear hbr
  refine wp_seqH (fun K2 HK2 => ?_)
  refine wp_seqH (fun K1 HK1 => ?_)
  refine wp_region_list ?_
  have hS := Below.refl W0.heap.size W0
  refine wpList_oper rfl (fun K hK => ?_)
  go_simp
  refine hK _ _ ?_
  clear hK K
  refine wpList_oper rfl (fun K hK => ?_)
  go_simp
  refine hK _ _ ?_
  clear hK K
  refine wpList_nil ?_
  refine HK1.out _ _ ?_
  clear HK1 K1
  clear hS
  refine wp_cond_false rfl ?_
  refine wp_skip ?_
  refine HK2.out _ _ ?_
  clear HK2 K2
  refine wp_seqH (fun K1 HK1 => ?_)
  refine wp_region_list ?_
  have hS := Below.refl W0.heap.size W0
  refine wpList_oper rfl (fun K hK => ?_)
  go_simp
  refine hK _ _ ?_
  clear hK K
  refine wpList_oper rfl (fun K hK => ?_)
  go_simp
  refine hK _ _ ?_
  clear hK K
  refine wpList_oper rfl (fun K hK => ?_)
  go_simp
  refine hK _ _ ?_
  clear hK K
  refine wpList_load_midD rfl 125 (.tmp 8) 9 rfl rfl (g) (13) (pt (bx) (bY) (false)) rfl _ ((HG.out.below hS).gb.base) underPt rfl (infoPt (pt_size _ _ _)) ?_
  simp only [List.set_cons_succ, List.set_cons_zero]
  have hQ := (KQ.start Hr.out s_N).call hS
  refine wpList_store_midD rfl 125 (.tmp 2) (.tmp 9) rfl rfl (N) 0 (pt (bx) (bY) (false)) rfl rfl (hQ.there (pt_size _ _ _)) (infoPt (pt_size _ _ _)) (pt_one _ _ _) ?_
  have g1 := hQ.put (C := pt (bx) (bY) (false)) (pt_size _ _ _)
  have hS9 := hQ.store (C := pt (bx) (bY) (false)) (pt_size _ _ _)
  clear hS hQ
  have hS := hS9
  clear hS9
  generalize World.setCells _ (N) 0 (pt (bx) (bY) (false)).toList = x3 at g1 hS ⊢
  refine wpList_nil ?_
  refine HK1.out _ _ ?_
  clear HK1 K1
  refine wp_ret ?_
  exact bodyPost_ret_by (results_cell rfl rfl (loadC _ N 0 125 (pt (bx) (bY) (false)) _ (rangeOf g1) underPt rfl (infoPt (pt_size _ _ _)))) rfl ⟨rfl, HBW.out.trans (hS.below.mono (by omega))⟩

set_option maxHeartbeats 4000000 in
set_option maxRecDepth 100000 in
theorem Base_any {w : World} {c g p m : Nat} {b bx bY : K} {kk : Nat} (hG : CAt w c g p m b bx bY kk) : Calls Tryz.prog 16 #[.pointer (some ⟨c, 0, none⟩)] w fun e w' => e = .returned (.agg (pt bx bY false)) ∧ Below w.heap.size w w' := by
  have hcl := hG.clt
  have hg := hG.ga.glt
  have hp := hG.ga.plt
  have HG9 := hideP hG
  clear hG
  go_enter Tryz.func16, Tryz.ntmps16
  refine wp_seqH (fun K0 HK0 => ?_)
  go_wp2_with fail
  refine HK0.out _ _ ?_
  clear HK0 K0
  refine at_world (fun W0 hW0 => ?_)
  have hbr : ∃ C : Array Value, W0.heap[w.heap.size]? = some (.cells C 34 (0, 0)) ∧ C.size = 9 := by
    rw [hW0]
    exact ⟨_, heap_new _ _, rfl⟩
  have hbw : Below w.heap.size w W0 := by
    rw [hW0]
    repeat first | exact Below.refl _ _ | (refine Below.alloc ?_ (by simp <;> omega) _)
  clear hW0
  have HG := hideP (HG9.out.below hbw)
  clear HG9
  have HBW := hideP hbw
  clear hbw
  generalize hN : w.heap.size = N at *
  clear hN
  obtain ⟨Cr, hbr, s_N⟩ := hbr
  have Hr := hideP hbr
  clear hbr
  refine wp_seqH (fun K1 HK1 => ?_)
  refine wp_region_list ?_
  have hS := Below.refl W0.heap.size W0
  refine wpList_oper rfl (fun K hK => ?_)
  go_simp
  refine hK _ _ ?_
  clear hK K
  refine wpList_oper rfl (fun K hK => ?_)
  refine wp_callD (av := #[.pointer (some ⟨c, 0, none⟩)]) _ _ 4 rfl rfl (by simp only [List.map_toArray, List.map_cons, List.map_nil]; rfl) (enters_of Tryz.func84 (by kernel_rfl) rfl) (group_any (HG.out.below hS)) ?_
  intro x3 hbc
  refine hK _ _ ?_
  clear hK K
  have hS9 := hS.trans (hbc.mono hS.size)
  clear hS hbc
  have hS := hS9
  clear hS9
  simp only [List.set_cons_succ, List.set_cons_zero]
  refine wpList_oper rfl (fun K hK => ?_)
  refine wp_callD (av := #[.pointer (some ⟨g, 0, none⟩)]) _ _ 5 rfl rfl (by simp only [List.map_toArray, List.map_cons, List.map_nil]; rfl) (enters_of Tryz.func85 (by kernel_rfl) rfl) (generator_any (HG.out.below hS)) ?_
  intro x4 hbc
  refine hK _ _ ?_
  clear hK K
  have hS9 := hS.trans (hbc.mono hS.size)
  clear hS hbc
  have hS := hS9
  clear hS9
  simp only [List.set_cons_succ, List.set_cons_zero]
  refine wpList_oper rfl (fun K hK => ?_)
  refine wp_callD (av := #[.agg (pt (bx) (bY) (false))]) _ _ 6 rfl rfl (by simp only [List.map_toArray, List.map_cons, List.map_nil]; rfl) (enters_of Tryz.func83 (by kernel_rfl) rfl) (to_any (bx) (bY) (false) _) ?_
  intro x5 hbc
  refine hK _ _ ?_
  clear hK K
  have hS9 := hS.trans (hbc.mono hS.size)
  clear hS hbc
  have hS := hS9
  clear hS9
  simp only [List.set_cons_succ, List.set_cons_zero]
  have hQ := (KQ.start Hr.out s_N).call hS
  refine wpList_store_midD rfl 34 (.tmp 2) (.tmp 6) rfl rfl (N) 0 (pt (bx) (bY) (false)) rfl rfl (hQ.there (pt_size _ _ _)) (infoA (pt_size _ _ _)) (pt_one _ _ _) ?_
  have g1 := hQ.put (C := pt (bx) (bY) (false)) (pt_size _ _ _)
  have hS9 := hQ.store (C := pt (bx) (bY) (false)) (pt_size _ _ _)
  clear hS hQ
  have hS := hS9
  clear hS9
  generalize World.setCells _ (N) 0 (pt (bx) (bY) (false)).toList = x6 at g1 hS ⊢
  refine wpList_nil ?_
  refine HK1.out _ _ ?_
  clear HK1 K1
  refine wp_ret ?_
  exact bodyPost_ret_by (results_cell rfl rfl (loadC _ N 0 34 (pt (bx) (bY) (false)) _ (rangeOf g1) underA rfl (infoA (pt_size _ _ _)))) rfl ⟨rfl, HBW.out.trans (hS.below.mono (by omega))⟩

set_option maxHeartbeats 4000000 in
set_option maxRecDepth 100000 in
theorem Good_any {w : World} {c g p m : Nat} {b bx bY : K} {kk : Nat} (hG : CAt w c g p m b bx bY kk) (x y : K) (hx : Fits x) (hy : Fits y) (i : Bool) : Calls Tryz.prog 35 #[.pointer (some ⟨c, 0, none⟩), .agg (pt x y i)] w fun e w' => e = .returned (.int .i64 (goodN m b x y i)) ∧ Below w.heap.size w w' := by
  have hcl := hG.clt
  have hg := hG.ga.glt
  have hp := hG.ga.plt
  have HG9 := hideP hG
  clear hG
  go_enter Tryz.func35, Tryz.ntmps35
  refine wp_seqH (fun K0 HK0 => ?_)
  go_wp2_with fail
  refine HK0.out _ _ ?_
  clear HK0 K0
  refine at_world (fun W0 hW0 => ?_)
  have hb0 : W0.heap[w.heap.size]? = some (.cells (pt (x) (y) (i)) 34 (0, 0)) := by
    rw [hW0]
    exact (heap_new _ _)
  have hbw : Below w.heap.size w W0 := by
    rw [hW0]
    repeat first | exact Below.refl _ _ | (refine Below.alloc ?_ (by simp <;> omega) _)
  clear hW0
  have HG := hideP (HG9.out.below hbw)
  clear HG9
  have HBW := hideP hbw
  clear hbw
  generalize hN : w.heap.size = N at *
  clear hN
  have H0 := hideP hb0
  clear hb0
  refine wp_seqH (fun K1 HK1 => ?_)
  refine wp_region_heldS (S := fun V => Below W0.heap.size W0 V) (by kernel_rfl) (Below.refl _ _).drew (fun hS => ?_)
  refine wpAnyH_takeL (i := 0) (v := ?_) rfl (by kernel_rfl) (by kernel_rfl) (by kernel_rfl) (fun _ _ _ h => h) (Or.inl ⟨by kernel_rfl, ?_⟩) hS ?_
  rotate_left
  · intro V hV
    go_simp
    (try with_reducible rfl)
  simp only [put_list, List.set_cons_succ, List.set_cons_zero]
  refine wpAnyH_takeL (i := 2) (v := .agg (pt (x) (y) (i))) rfl (by kernel_rfl) (by kernel_rfl) (by kernel_rfl) (fun _ _ _ h => h) (yields_loadC (by kernel_rfl) 34 _ rfl (N) (0) rfl (pt (x) (y) (i)) _ (fun V hV => rangeOf ((hV.block _ (lt_of_block H0.out)).trans H0.out)) underA rfl (infoA (pt_size _ _ _))) hS ?_
  simp only [put_list, List.set_cons_succ, List.set_cons_zero]
  refine wpAnyH_ready (rs := [1]) (by kernel_rfl) (by simp) (AllReadyH.cons rfl (fun K hK => ?_) AllReadyH.nil)
  refine ite_wp (by kernel_rfl) ?_
  refine wp_callD (av := #[.pointer (some ⟨c, 0, none⟩)]) _ _ 6 rfl rfl (by simp only [List.map_toArray, List.map_cons, List.map_nil]; rfl) (enters_of Tryz.func84 (by kernel_rfl) rfl) (group_any (HG.out.below hS)) ?_
  intro x3 hbc
  refine hK.out _ _ (hS.trans (hbc.mono hS.size)) (fun hS => ?_)
  clear hK K hbc
  simp only [List.set_cons_succ, List.set_cons_zero]
  refine wpAnyH_ready (rs := [3]) (by kernel_rfl) (by simp) (AllReadyH.cons rfl (fun K hK => ?_) AllReadyH.nil)
  refine ite_wp (by kernel_rfl) ?_
  refine wp_callD (av := #[.agg (pt (x) (y) (i))]) _ _ 8 rfl rfl (by simp only [List.map_toArray, List.map_cons, List.map_nil]; rfl) (enters_of Tryz.func103 (by kernel_rfl) rfl) (from_any (x) (y) (i) _) ?_
  intro x4 hbc
  refine hK.out _ _ (hS.trans (hbc.mono hS.size)) (fun hS => ?_)
  clear hK K hbc
  simp only [List.set_cons_succ, List.set_cons_zero]
  refine wpAnyH_ready (rs := [4]) (by kernel_rfl) (by simp) (AllReadyH.cons rfl (fun K hK => ?_) AllReadyH.nil)
  refine ite_wp (by kernel_rfl) ?_
  refine wp_call2D (.tmp 6) (.tmp 8) _ 9 rfl rfl rfl rfl (enters_of Tryz.func111 (by kernel_rfl) rfl) (good_any ((HG.out.below hS).ga) x y hx hy i) ?_
  intro x5 hbc
  refine hK.out _ _ (hS.trans (hbc.mono hS.size)) (fun hS => ?_)
  clear hK K hbc
  simp only [List.set_cons_succ, List.set_cons_zero]
  refine wpAnyH_takeL (i := 5) (v := ?_) rfl (by kernel_rfl) (by kernel_rfl) (by kernel_rfl) (fun _ _ _ h => h) (Or.inl ⟨by kernel_rfl, ?_⟩) hS ?_
  rotate_left
  · intro V hV
    go_simp
    (try with_reducible rfl)
  simp only [put_list, List.set_cons_succ, List.set_cons_zero]
  refine wpAnyH_done (by kernel_rfl) ?_ _
  (try simp only [put_none])
  refine HK1.out _ _ ?_
  clear HK1 K1
  have HG9 := hideP (HG.out.below hS)
  have H09 := hideP ((hS.block _ (lt_of_block H0.out)).trans H0.out)
  have HBW9 := hideP (HBW.out.trans (hS.mono (Nat.le_of_lt (lt_of_block H0.out))))
  clear hS HG HBW H0 
  have HG := HG9
  clear HG9
  have HBW := HBW9
  clear HBW9
  have H0 := H09
  clear H09
  as_aux_lemma =>
    refine wp_ret ?_
    exact bodyPost_ret_by (results_tmp rfl _ _ _) rfl ⟨rfl, HBW.out⟩

end Go.Proofs.YtppijhcfodccfaaGreat.P4
