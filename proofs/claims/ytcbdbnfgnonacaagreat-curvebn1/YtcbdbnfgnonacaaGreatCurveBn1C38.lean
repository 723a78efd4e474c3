/-
  Single operations of the law.
-/
import Derived.Test.YtcbdbnfgnonacaaGreatCurveBn1C25
import Derived.Test.YtcbdbnfgnonacaaGreatCurveBn1C26
import Derived.Test.YtcbdbnfgnonacaaGreatCurveBn1C22
import Derived.Test.YtcbdbnfgnonacaaGreatCurveBn1C11
import Derived.Test.YtcbdbnfgnonacaaGreatCurveBn1C01
import Derived.Test.YtcbdbnfgnonacaaGreatCurveBn1C28
import Derived.Test.YtcbdbnfgnonacaaGreatCurveBn1C37
import Derived.Test.YtcbdbnfgnonacaaGreatCurveBn1C09
namespace Go.Proofs.YtcbdbnfgnonacaaGreat

set_option maxRecDepth 100000

theorem pr_2 : Pr 2 := small_pr (by decide +kernel)

theorem pr_3 : Pr 3 := small_pr (by decide +kernel)

theorem pr_7 : Pr 7 := small_pr (by decide +kernel)

theorem pr_5 : Pr 5 := small_pr (by decide +kernel)

theorem pr_29 : Pr 29 := small_pr (by decide +kernel)

theorem pr_11 : Pr 11 := small_pr (by decide +kernel)

theorem pr_13 : Pr 13 := small_pr (by decide +kernel)

theorem pr_271 : Pr 271 := small_pr (by decide +kernel)

theorem pr_67 : Pr 67 := small_pr (by decide +kernel)

theorem pr_17 : Pr 17 := small_pr (by decide +kernel)

theorem pr_19 : Pr 19 := small_pr (by decide +kernel)

theorem pr_41 : Pr 41 := small_pr (by decide +kernel)

theorem pr_109 : Pr 109 := small_pr (by decide +kernel)

theorem pr_229 : Pr 229 := small_pr (by decide +kernel)

theorem pr_311 : Pr 311 := small_pr (by decide +kernel)

theorem pr_983 : Pr 983 := small_pr (by decide +kernel)

theorem pr_5501 : Pr 5501 :=
  lucas_pr (k := 4) (N := 5501) (a := 2) (L := [(2, 2), (5, 3), (11, 1)]) (by decide) (by decide +kernel) ⟨pr_2, pr_5, pr_11, trivial⟩ (by decide +kernel)

theorem pr_11003 : Pr 11003 :=
  lucas_pr (k := 4) (N := 11003) (a := 2) (L := [(2, 1), (5501, 1)]) (by decide) (by decide +kernel) ⟨pr_2, pr_5501, trivial⟩ (by decide +kernel)

theorem pr_1853641 : Pr 1853641 :=
  lucas_pr (k := 4) (N := 1853641) (a := 17) (L := [(2, 3), (3, 2), (5, 1), (19, 1), (271, 1)]) (by decide) (by decide +kernel) ⟨pr_2, pr_3, pr_5, pr_19, pr_271, trivial⟩ (by decide +kernel)

theorem pr_1231 : Pr 1231 :=
  lucas_pr (k := 4) (N := 1231) (a := 3) (L := [(2, 1), (3, 1), (5, 1), (41, 1)]) (by decide) (by decide +kernel) ⟨pr_2, pr_3, pr_5, pr_41, trivial⟩ (by decide +kernel)

theorem pr_4562087 : Pr 4562087 :=
  lucas_pr (k := 4) (N := 4562087) (a := 5) (L := [(2, 1), (17, 1), (109, 1), (1231, 1)]) (by decide) (by decide +kernel) ⟨pr_2, pr_17, pr_109, pr_1231, trivial⟩ (by decide +kernel)

theorem pr_73 : Pr 73 := small_pr (by decide +kernel)

theorem pr_89 : Pr 89 := small_pr (by decide +kernel)

theorem pr_37 : Pr 37 := small_pr (by decide +kernel)

theorem pr_2221 : Pr 2221 :=
  lucas_pr (k := 4) (N := 2221) (a := 2) (L := [(2, 2), (3, 1), (5, 1), (37, 1)]) (by decide) (by decide +kernel) ⟨pr_2, pr_3, pr_5, pr_37, trivial⟩ (by decide +kernel)

theorem pr_13327 : Pr 13327 :=
  lucas_pr (k := 4) (N := 13327) (a := 3) (L := [(2, 1), (3, 1), (2221, 1)]) (by decide) (by decide +kernel) ⟨pr_2, pr_3, pr_2221, trivial⟩ (by decide +kernel)

theorem pr_173171039 : Pr 173171039 :=
  lucas_pr (k := 4) (N := 173171039) (a := 13) (L := [(2, 1), (73, 1), (89, 1), (13327, 1)]) (by decide) (by decide +kernel) ⟨pr_2, pr_73, pr_89, pr_13327, trivial⟩ (by decide +kernel)

theorem pr_911 : Pr 911 := small_pr (by decide +kernel)

theorem pr_127 : Pr 127 := small_pr (by decide +kernel)

theorem pr_3557 : Pr 3557 :=
  lucas_pr (k := 4) (N := 3557) (a := 2) (L := [(2, 2), (7, 1), (127, 1)]) (by decide) (by decide +kernel) ⟨pr_2, pr_7, pr_127, trivial⟩ (by decide +kernel)

theorem pr_1263766531 : Pr 1263766531 :=
  lucas_pr (k := 4) (N := 1263766531) (a := 10) (L := [(2, 1), (3, 1), (5, 1), (13, 1), (911, 1), (3557, 1)]) (by decide) (by decide +kernel) ⟨pr_2, pr_3, pr_5, pr_13, pr_911, pr_3557, trivial⟩ (by decide +kernel)

theorem pr_35385462869 : Pr 35385462869 :=
  lucas_pr (k := 4) (N := 35385462869) (a := 2) (L := [(2, 2), (7, 1), (1263766531, 1)]) (by decide) (by decide +kernel) ⟨pr_2, pr_7, pr_1263766531, trivial⟩ (by decide +kernel)

theorem pr_2480874801745591 : Pr 2480874801745591 :=
  lucas_pr (k := 4) (N := 2480874801745591) (a := 6) (L := [(2, 1), (3, 2), (5, 1), (19, 1), (41, 1), (35385462869, 1)]) (by decide) (by decide +kernel) ⟨pr_2, pr_3, pr_5, pr_19, pr_41, pr_35385462869, trivial⟩ (by decide +kernel)

theorem pr_13427688667394608761327070753331941386769 : Pr 13427688667394608761327070753331941386769 :=
  lucas_pr (k := 4) (N := 13427688667394608761327070753331941386769) (a := 17) (L := [(2, 4), (3, 1), (7, 1), (11, 1), (1853641, 1), (4562087, 1), (173171039, 1), (2480874801745591, 1)]) (by decide) (by decide +kernel) ⟨pr_2, pr_3, pr_7, pr_11, pr_1853641, pr_4562087, pr_173171039, pr_2480874801745591, trivial⟩ (by decide +kernel)

theorem pr_3691 : Pr 3691 :=
  lucas_pr (k := 4) (N := 3691) (a := 2) (L := [(2, 1), (3, 2), (5, 1), (41, 1)]) (by decide) (by decide +kernel) ⟨pr_2, pr_3, pr_5, pr_41, trivial⟩ (by decide +kernel)

theorem pr_4999 : Pr 4999 :=
  lucas_pr (k := 4) (N := 4999) (a := 3) (L := [(2, 1), (3, 1), (7, 2), (17, 1)]) (by decide) (by decide +kernel) ⟨pr_2, pr_3, pr_7, pr_17, trivial⟩ (by decide +kernel)

theorem pr_405928799 : Pr 405928799 :=
  lucas_pr (k := 4) (N := 405928799) (a := 22) (L := [(2, 1), (11, 1), (3691, 1), (4999, 1)]) (by decide) (by decide +kernel) ⟨pr_2, pr_11, pr_3691, pr_4999, trivial⟩ (by decide +kernel)

theorem pr_233 : Pr 233 := small_pr (by decide +kernel)

theorem pr_327599 : Pr 327599 :=
  lucas_pr (k := 4) (N := 327599) (a := 19) (L := [(2, 1), (19, 1), (37, 1), (233, 1)]) (by decide) (by decide +kernel) ⟨pr_2, pr_19, pr_37, pr_233, trivial⟩ (by decide +kernel)

theorem pr_11465965001 : Pr 11465965001 :=
  lucas_pr (k := 4) (N := 11465965001) (a := 3) (L := [(2, 3), (5, 4), (7, 1), (327599, 1)]) (by decide) (by decide +kernel) ⟨pr_2, pr_5, pr_7, pr_327599, trivial⟩ (by decide +kernel)

/-- BnP is prime: Fermat's law. -/
theorem fermatBnP : Ferm 21888242871839275222246405745257275088696311157297823662689037894645226208583 :=
  lucas (k := 4) (N := 21888242871839275222246405745257275088696311157297823662689037894645226208583) (a := 3) (L := [(2, 1), (3, 2), (13, 1), (29, 1), (67, 1), (229, 1), (311, 1), (983, 1), (11003, 1), (13427688667394608761327070753331941386769, 1), (405928799, 1), (11465965001, 1)]) (by decide) (by decide +kernel) ⟨pr_2, pr_3, pr_13, pr_29, pr_67, pr_229, pr_311, pr_983, pr_11003, pr_13427688667394608761327070753331941386769, pr_405928799, pr_11465965001, trivial⟩ (by decide +kernel)

end Go.Proofs.YtcbdbnfgnonacaaGreat

namespace Go.Proofs.YtcbdbnfgnonacaaGreat.P4
open Go.RowKit Go.Shelf

theorem pt_sety (x y y2 : K) (i : Bool) : putAll (pt x y i) 4 (nv y2).toList = pt x y2 i := by
  rw [pt_eq, pt_eq]
  exact putAll_mid2 (nv_size _) (by rw [nv_size, nv_size])

set_option maxRecDepth 100000
abbrev nE (x : EX) : SV := .row [.e 1 x]

theorem negative_any {w : World} {g p m : Nat} {b : K} (HG : GAt w g p m b) (x : K) (hx : Fits x) : Calls Tryz.prog 183 #[.pointer (some ⟨g, 0, none⟩), .agg (nv x)] w fun e w' => e = .returned (.agg (nv (rest m (kneg m x)))) ∧ Below w.heap.size w w' := by
  have := call_F HG (v5 x x x x x) false (fits2 hx hx) [] (fun _ h => by cases h) Tryz.func183 (args := [gp0, nE (.v 0)]) (y := nE (.u 2 (.u 0 (.v 0)))) (by kernel_rfl)
  simp only [Al.sv, List.map_cons, List.map_nil, rw_n] at this
  exact this

set_option maxHeartbeats 4000000 in
set_option maxRecDepth 100000 in
theorem negate_0 {w : World} {g p m : Nat} {b : K} (hG : GAt w g p m b) (x y : K) (hx : Fits x) (hy : Fits y) (i : Bool) (he : goodN m b x y i = 0) : Calls Tryz.prog 119 #[.pointer (some ⟨g, 0, none⟩), .agg (pt x y i)] w fun e w' => e = .returned (.tuple #[.agg (pt x (rest m (kneg m (y))) i), .int .i64 0]) ∧ Below w.heap.size w w' := by
  have hg := hG.glt
  have hp := hG.plt
  have HG9 := hideP hG
  clear hG
  go_enter Tryz.func119, Tryz.ntmps119
  refine wp_seqH (fun K0 HK0 => ?_)
  go_wp2_with fail
  refine HK0.out _ _ ?_
  clear HK0 K0
  refine at_world (fun W0 hW0 => ?_)
  have hb0 : W0.heap[w.heap.size]? = some (.cells (pt (x) (y) (i)) 125 (0, 0)) := by
    rw [hW0]
    exact ((heap_old _ _ (by simp <;> omega)).trans (heap_new _ _))
  have hbr : ∃ C : Array Value, W0.heap[w.heap.size + 1]? = some (.cells C 125 (0, 0)) ∧ C.size = 9 := by
    rw [hW0]
    exact ⟨_, heap_new1 _ _ _, rfl⟩
  have hbw : Below w.heap.size w W0 := by
    rw [hW0]
    repeat first | exact Below.refl _ _ | (refine Below.alloc ?_ (by simp <;> omega) _)
  clear hW0
  have HG := hideP (HG9.out.below hbw)
  clear HG9
  have HBW := hideP hbw
  clear hbw
  generalize hN : w.heap.size = N at *
  clear hN
  generalize hB1 : N + 1 = B1 at *
  have o1 : N < B1 := by omega
  clear hB1
  have H0 := hideP hb0
  clear hb0
  obtain ⟨Cr, hbr, s_B1⟩ := hbr
  have Hr := hideP hbr
  clear hbr
  refine wp_seqH (fun K2 HK2 => ?_)
  refine wp_seqH (fun K1 HK1 => ?_)
  refine wp_region_list ?_
  have hS := Below.refl W0.heap.size W0
  refine wpList_oper rfl (fun K hK => ?_)
  go_simp
  refine hK _ _ ?_
  clear hK K
  refine wpList_load_midD rfl 125 (.tmp 3) 8 rfl rfl (N) (0) (pt (x) (y) (i)) rfl _ (rangeOf ((hS.block _ (lt_of_block H0.out)).trans H0.out)) underPt rfl (infoPt (pt_size _ _ _)) ?_
  simp only [List.set_cons_succ, List.set_cons_zero]
  refine wpList_oper rfl (fun K hK => ?_)
  refine wp_call2D (.tmp 7) (.tmp 8) _ 9 rfl rfl rfl rfl (enters_of Tryz.func111 (by kernel_rfl) rfl) (good_is (HG.out.below hS) (x) (y) hx hy i he) ?_
  intro x4 hbc
  refine hK _ _ ?_
  clear hK K
  have hS9 := hS.trans (hbc.mono hS.size)
  clear hS hbc
  have hS := hS9
  clear hS9
  simp only [List.set_cons_succ, List.set_cons_zero]
  refine wpList_oper rfl (fun K hK => ?_)
  go_simp
  refine hK _ _ ?_
  clear hK K
  refine wpList_nil ?_
  refine HK1.out _ _ ?_
  clear HK1 K1
  have HG9 := hideP (HG.out.below hS)
  have H09 := hideP ((hS.block _ (lt_of_block H0.out)).trans H0.out)
  have Hr9 := hideP ((hS.block _ (lt_of_block Hr.out)).trans Hr.out)
  have HBW9 := hideP (HBW.out.trans (hS.mono (Nat.le_of_lt (lt_of_block H0.out))))
  clear hS HG HBW H0 Hr 
  have HG := HG9
  clear HG9
  have HBW := HBW9
  clear HBW9
  have H0 := H09
  clear H09
  have Hr := Hr9
  clear Hr9
  as_aux_lemma =>
    refine wp_seqH (fun K1 HK1 => ?_)
    refine wp_region_list ?_
    have hS := Below.refl x4.heap.size x4
    refine wpList_oper rfl (fun K hK => ?_)
    go_simp
    refine hK _ _ ?_
    clear hK K
    refine wpList_oper rfl (fun K hK => ?_)
    go_simp
    refine hK _ _ ?_
    clear hK K
    refine wpList_nil ?_
    refine HK1.out _ _ ?_
    clear HK1 K1
    clear hS
    refine wp_cond_false rfl ?_
    refine wp_skip ?_
    refine HK2.out _ _ ?_
    clear HK2 K2
    refine wp_seqH (fun K1 HK1 => ?_)
    refine wp_region_list ?_
    refine wpList_oper rfl (fun K hK => ?_)
    go_simp
    refine hK _ _ ?_
    clear hK K
    refine wpList_oper rfl (fun K hK => ?_)
    go_simp
    refine hK _ _ ?_
    clear hK K
    refine wpList_load_midD rfl 32 (.tmp 16) 17 rfl rfl N 4 (nv y) rfl _ (pt_y H0.out) underE rfl (infoE (nv_size _)) ?_
    simp only [List.set_cons_succ, List.set_cons_zero]
    refine wpList_oper rfl (fun K hK => ?_)
    refine wp_call2D (.tmp 15) (.tmp 17) _ 18 rfl rfl rfl rfl (enters_of Tryz.func183 (by kernel_rfl) rfl) (negative_any HG.out y hy) ?_
    intro x91 hbc
    refine hK _ _ ?_
    clear hK K
    simp only [List.set_cons_succ, List.set_cons_zero]
    refine wpList_oper rfl (fun K hK => ?_)
    go_simp
    refine hK _ _ ?_
    clear hK K
    have f0 := (hbc.block _ (lt_of_block H0.out)).trans H0.out
    refine wpList_store_midD rfl 32 (.tmp 19) (.tmp 18) rfl rfl N 4 (nv (rest m (kneg m (y)))) rfl rfl (there_mid f0 (by rw [pt_size, nv_size]; omega)) (infoE (nv_size _)) (nv_one _) ?_
    have g0 := blk_sets (nv (rest m (kneg m (y)))).toList 4 f0
    rw [pt_sety] at g0
    have hB := But.sets (nv (rest m (kneg m (y)))).toList 4 (But.refl N x91)
    generalize World.setCells x91 N 4 (nv (rest m (kneg m (y)))).toList = x92 at g0 hB ⊢
    refine wpList_nil ?_
    refine HK1.out _ _ ?_
    clear HK1 K1
    have fr := (hB.same _ (by omega)).trans ((hbc.block _ (lt_of_block Hr.out)).trans Hr.out)
    have hQ := KQ.start fr s_B1
    refine wp_seqH (fun K1 HK1 => ?_)
    refine wp_region_list ?_
    refine wpList_load_midD rfl 125 (.tmp 3) 20 rfl rfl N 0 (pt x (rest m (kneg m (y))) i) rfl _ (rangeOf g0) underPt rfl (infoPt (pt_size _ _ _)) ?_
    simp only [List.set_cons_succ, List.set_cons_zero]
    refine wpList_store_midD rfl 125 (.tmp 4) (.tmp 20) rfl rfl B1 0 (pt x (rest m (kneg m (y))) i) rfl rfl (hQ.there (pt_size _ _ _)) (infoPt (pt_size _ _ _)) (pt_one _ _ _) ?_
    have g1 := hQ.put (C := pt x (rest m (kneg m (y))) i) (pt_size _ _ _)
    have hS := hQ.store (C := pt x (rest m (kneg m (y))) i) (pt_size _ _ _)
    generalize World.setCells x92 B1 0 (pt x (rest m (kneg m (y))) i).toList = x93 at g1 hS ⊢
    refine wpList_oper rfl (fun K hK => ?_)
    go_simp
    refine hK _ _ ?_
    clear hK K
    refine wpList_nil ?_
    refine HK1.out _ _ ?_
    refine wp_ret ?_
    exact bodyPost_ret_by (results_pair rfl rfl rfl (loadC _ B1 0 125 (pt x (rest m (kneg m (y))) i) _ (rangeOf g1) underPt rfl (infoPt (pt_size _ _ _)))) rfl ⟨rfl, HBW.out.trans ((hbc.mono (Nat.le_of_lt (lt_of_block H0.out))).trans (hB.below.trans (hS.below.mono (by omega))))⟩

def negP (m : Nat) (b x y : K) (i : Bool) : P3 := if goodN m b x y i = 0 then (x, rest m (kneg m y), i) else (k0, k0, false)

section
variable {w : World} {D : Dt} (HG : GAt w D.g D.p D.m D.b)
include HG
theorem negate_f (X Y Z : EX) (C : CX) (hX : Fits ((al D).d X)) (hY : Fits ((al D).d Y)) (h : goodN D.m D.b ((al D).d X) ((al D).d Y) ((al D).cx C) = 0) (hZ : (al D).d Z = rest D.m (kneg D.m ((al D).d Y))) : FactOK Tryz.prog (al D) w (119, [gp0, ptE X Y C], .tup (ptE X Z C) (iE 0)) :=
  ⟨enters_of Tryz.func119 (by kernel_rfl) rfl, fun β V hV => by
    have := negate_0 (HG.below hV) _ _ hX hY _ h
    rw [← hZ] at this
    simp only [Al.sv, List.map_cons, List.map_nil, rw_pt]
    exact this⟩

end
section
variable {w : World} {c g p m : Nat} {b bx bY : K} {kk : Nat} (hG : CAt w c g p m b bx bY kk) (x y : K) (hx : Fits x) (hy : Fits y)
include hG hx hy
theorem negate_bad (i : Bool) (e0 : Int) (he : goodN m b x y i = e0) (h : runG fitA [] (factT [(111, [gp0, P0], iE e0)]) (xlC false) Tryz.f119 [gp0, P0] = some (.tup (ptE (.c 0) (.c 0) (.lit false)) (iE e0))) : FactOK Tryz.prog (al ⟨m, g, p, b, bx, bY, 0, vA x y x y (k0, k0, k0) (k0, k0, k0) (k0, k0, i), bA i (k0, k0, i) i, c⟩) w (119, [gp0, P0], .tup (ptE (.c 0) (.c 0) (.lit false)) (iE e0)) :=
  ⟨enters_of Tryz.func119 (by kernel_rfl) rfl, fun β V hV => by
    have := call_C (hG.below hV) 0 (vA x y x y (k0, k0, k0) (k0, k0, k0) (k0, k0, i)) (bA i (k0, k0, i) i) (fitsA hx hy hx hy) false (fun h => by cases h) [] trivial [(111, [gp0, P0], iE e0)] ⟨good_f (hG.below hV).ga (.v 0) (.v 1) (.at_ 0) (by exact hx) (by exact hy) he, trivial⟩ Tryz.func119 h
    simp only [Al.sv, List.map_cons, List.map_nil, rw_pt] at this ⊢
    exact this⟩

theorem Neg_any (i : Bool) : Calls Tryz.prog 41 #[.pointer (some ⟨c, 0, none⟩), .agg (pt x y i)] w fun e w' => e = .returned (.tuple #[.agg (ptS (negP m b x y i)), .int .i64 (goodN m b x y i)]) ∧ Below w.heap.size w w' := by
  unfold negP
  have bad : ∀ e0 : Int, goodN m b x y i = e0 → runG fitA [] (factT [(111, [gp0, P0], iE e0)]) (xlC false) Tryz.f119 [gp0, P0] = some (.tup (ptE (.c 0) (.c 0) (.lit false)) (iE e0)) → runG fitA [] (factT [(119, [gp0, P0], .tup (ptE (.c 0) (.c 0) (.lit false)) (iE e0))]) (xlC false) Tryz.f41 [cp0, P0] = some (.tup (ptE (.c 0) (.c 0) (.lit false)) (iE e0)) → Calls Tryz.prog 41 #[.pointer (some ⟨c, 0, none⟩), .agg (pt x y i)] w fun e w' => e = .returned (.tuple #[.agg (ptS (k0, k0, false)), .int .i64 e0]) ∧ Below w.heap.size w w' := fun e0 he h1 h => by
    have hF : FactsOK Tryz.prog (al ⟨m, g, p, b, bx, bY, 0, vA x y x y (k0, k0, k0) (k0, k0, k0) (k0, k0, i), bA i (k0, k0, i) i, c⟩) w [(119, [gp0, P0], .tup (ptE (.c 0) (.c 0) (.lit false)) (iE e0))] := ⟨negate_bad hG x y hx hy i e0 he h1, trivial⟩
    have := call_C hG 0 _ _ (fitsA hx hy hx hy) false (fun h => by cases h) [] trivial _ hF Tryz.func41 h
    simp only [Al.sv, List.map_cons, List.map_nil, rw_pt] at this
    exact this
  rcases goodN_cases m b x y i with he | he | he
  · rw [he, if_pos rfl]
    have main : ∀ q : K, q = rest m (kneg m y) → Calls Tryz.prog 41 #[.pointer (some ⟨c, 0, none⟩), .agg (pt x y i)] w fun e w' => e = .returned (.tuple #[.agg (ptS (x, q, i)), .int .i64 0]) ∧ Below w.heap.size w w' := fun q hq => by
      have hF : FactsOK Tryz.prog (al ⟨m, g, p, b, bx, bY, 0, vA x y x y (k0, k0, k0) (k0, k0, k0) (k0, q, i), bA i (k0, k0, i) i, c⟩) w [(119, [gp0, P0], .tup (ptE (.v 0) (.v 6) (.at_ 0)) (iE 0))] := ⟨negate_f hG.ga (.v 0) (.v 1) (.v 6) (.at_ 0) (by exact hx) (by exact hy) he hq, trivial⟩
      have := call_C hG 0 _ _ (fitsA hx hy hx hy) false (fun h => by cases h) [] trivial _ hF Tryz.func41 (args := [cp0, P0]) (y := .tup (ptE (.v 0) (.v 6) (.at_ 0)) (iE 0)) (by kernel_rfl)
      simp only [Al.sv, List.map_cons, List.map_nil, rw_pt] at this
      exact this
    exact main _ rfl
  · rw [he, if_neg (by decide)]
    exact bad 70 he (by kernel_rfl) (by kernel_rfl)
  · rw [he, if_neg (by decide)]
    exact bad 71 he (by kernel_rfl) (by kernel_rfl)

end

end Go.Proofs.YtcbdbnfgnonacaaGreat.P4

namespace Go.Proofs.YtcbdbnfgnonacaaGreat
open Go.RowKit Go.Shelf
open P4 (dTimes dOut dAdd dSum P3)

/-- A point, unless there is an error. -/
def resP (e : Int) (q : P3) : P3 := if e = 0 then q else (0, 0, false)

/-- A slice of another length. -/
def Sh (n : Nat) (v : Value) : Prop := ∃ a l c, v = .slice a l c ∧ l ≠ n

theorem Sh.one {n : Nat} {v : Value} (h : Sh n v) : v.oneCell' = true := by
  obtain ⟨a, l, c, rfl, _⟩ := h
  rfl

/-- A point of the document, unless there is an error. -/
structure QE (w : World) (v : Value) (n : Nat) (q : P3) (e : Int) : Prop where
  ok : e = 0 → QD w v n q.1 q.2.1 q.2.2
  no : e ≠ 0 → v = nilP

theorem QE.moved {w w' : World} {v : Value} {n : Nat} {q : P3} {e : Int} (h : QE w v n q e) (hb : Below w.heap.size w w') : QE w' v n q e := ⟨fun h0 => (h.ok h0).moved hb, h.no⟩

theorem LL.sh {w : World} {v : Value} {n x : Nat} (hn : 2 ≤ n) (h : LL w v n [x]) : Sh n v := by
  obtain ⟨g, o, c, rfl, _⟩ := h.ex
  exact ⟨_, _, _, rfl, by simp; omega⟩

/-- Both that the point and the error's number. -/
def TqE (n : Nat) (q : P3) (e : Int) (v : Value) (w : World) : Prop := ∃ a b i, v = .tuple #[.agg #[a, b, .bool i], .int .i64 e] ∧ Sh n a ∧ Sh n b ∧ QE w (.agg #[a, b, .bool i]) n q e

theorem stab_TqE (n : Nat) (q : P3) (e : Int) : Stab (TqE n q e) := by
  rintro v w w' ⟨a, b, i, e1, h1, h2, h3⟩ hb
  exact ⟨a, b, i, e1, h1, h2, h3.moved hb⟩

theorem PtE.te {w : World} {r : Ending} {n : Nat} {q : P3} {e : Int} (hn : 2 ≤ n) (h : PtE w r n q e) : ∃ v, r = .returned v ∧ TqE n q e v w := by
  obtain ⟨t, e1, h1, h2⟩ := h
  by_cases he : e = 0
  · obtain ⟨a, b, rfl, k1, k2⟩ := (h1 he).ex
    exact ⟨_, e1, a, b, _, rfl, k1.sh hn, k2.sh hn, ⟨h1, h2⟩⟩
  · have := h2 he
    subst this
    exact ⟨_, e1, _, _, _, rfl, ⟨_, _, _, rfl, by omega⟩, ⟨_, _, _, rfl, by omega⟩, ⟨h1, h2⟩⟩

/-- A store over a point of the document leaves all others. -/
theorem LW.but {w w' : World} {v : Value} {n : Nat} {f : Nat → Nat} (h : LW w v n f) {B t : Nat} {x y : Value} {i : Bool} (hB : BX w B #[x, y, .bool i] t) (hx : Sh n x) (hy : Sh n y) (hb : But B w w') : LW w' v n f := by
  obtain ⟨g, o, c', e, h1, h2, hg, hc⟩ := h.ex
  refine ⟨g, o, c', e, h1, h2, Nat.lt_of_lt_of_le hg hb.below.size, fun j hj => ?_⟩
  have := hc j hj
  by_cases hgB : g = B
  · subst hgB
    rw [blk_cellE hB.heap] at this
    obtain ⟨_, _, _, rfl, _⟩ := hx
    obtain ⟨_, _, _, rfl, _⟩ := hy
    match o + j, this with
    | 0, this => cases this
    | 1, this => cases this
    | 2, this => cases this
    | _ + 3, this => cases this
  · unfold World.cell? at this ⊢
    simp only [hb.same g hgB]
    exact this

theorem LL.but {w w' : World} {v : Value} {n : Nat} {xs : List Nat} (h : LL w v n xs) {B t : Nat} {x y : Value} {i : Bool} (hB : BX w B #[x, y, .bool i] t) (hx : Sh n x) (hy : Sh n y) (hb : But B w w') : LL w' v n xs := by
  obtain ⟨g, o, c', e, h1, h2, hg, hc⟩ := h.ex
  refine ⟨g, o, c', e, h1, h2, Nat.lt_of_lt_of_le hg hb.below.size, fun j z hj => ?_⟩
  obtain ⟨u, hu, hlu⟩ := hc j z hj
  refine ⟨u, ?_, hlu.but hB hx hy hb⟩
  by_cases hgB : g = B
  · subst hgB
    obtain ⟨g', o', c'', e', _⟩ := hlu.ex
    subst e'
    rw [blk_cellE hB.heap] at hu
    obtain ⟨_, l1, _, rfl, k1⟩ := hx
    obtain ⟨_, l2, _, rfl, k2⟩ := hy
    match o + j, hu with
    | 0, hu => cases hu; exact absurd rfl k1
    | 1, hu => cases hu; exact absurd rfl k2
    | 2, hu => cases hu
    | _ + 3, hu => cases hu
  · unfold World.cell? at hu ⊢
    simp only [hb.same g hgB]
    exact hu

theorem QE.but {w w' : World} {v : Value} {n : Nat} {q : P3} {e : Int} (h : QE w v n q e) {B t : Nat} {x y : Value} {i : Bool} (hB : BX w B #[x, y, .bool i] t) (hx : Sh n x) (hy : Sh n y) (hb : But B w w') : QE w' v n q e :=
  ⟨fun h0 => by
    obtain ⟨a, b, e1, h1, h2⟩ := (h.ok h0).ex
    exact ⟨a, b, e1, h1.but hB hx hy hb, h2.but hB hx hy hb⟩, h.no⟩

/-- A slice. -/
def Sl (v : Value) : Prop := ∃ a l c, v = .slice a l c

theorem LW.sl {w : World} {v : Value} {n : Nat} {f : Nat → Nat} (h : LW w v n f) : Sl v := by
  obtain ⟨g, o, c, rfl, _⟩ := h.ex
  exact ⟨_, _, _, rfl⟩

theorem LL.sl {w : World} {v : Value} {n : Nat} {xs : List Nat} (h : LL w v n xs) : Sl v := by
  obtain ⟨g, o, c, rfl, _⟩ := h.ex
  exact ⟨_, _, _, rfl⟩

/-- A curve of the document, and that its parts are slices. -/
def DV (v : Value) (w : World) : Prop := ∃ (mv : Value) (fo : Nat) (tv b r x y : Value), v = .agg #[mv, .int .u64 (fo : Int), tv, .int .i64 1, b, r, x, y, .bool false] ∧ (Sl mv ∧ Sl tv ∧ Sl b ∧ Sl r ∧ Sl x ∧ Sl y) ∧ DCv w (.agg #[mv, .int .u64 (fo : Int), tv, .int .i64 1, b, r, x, y, .bool false]) 4 nBnP 3 nBnR 1 2

theorem dv_any (w : World) : Calls Tryz.prog 18 #[] w fun r w' => (∃ v, r = .returned v ∧ DV v w') ∧ Below w.heap.size w w' := by
  refine (rBn1_any w).mono ?_
  rintro r w' ⟨⟨v, e, h⟩, hb⟩
  obtain ⟨mv, fo, tv, b, r, x, y, rfl, h1, h2, h3, h4, h5, h6⟩ := h.ex
  have h7 := h1
  obtain ⟨mv', fo', tv', e', h8, h9, _⟩ := h7.ex
  cases e'
  exact ⟨⟨_, e, mv, fo, tv, b, r, x, y, rfl, ⟨h2.sl, h9.sl, h3.sl, h4.sl, h5.sl, h6.sl⟩, mv, fo, tv, b, r, x, y, rfl, h1, h3, h4, h5, h6⟩, hb⟩

theorem hB3 : 3 < nBnP ∧ 1 < nBnP ∧ 2 < nBnP := by decide +kernel

theorem cB_is : P4.cB = 3 := by decide +kernel

theorem fer_is : Ferm nBnP := fermatBnP

theorem hR256 : nBnR < 2 ^ 256 := by decide +kernel

theorem pow_is : W4.R = 18446744073709551616 ^ 4 := by decide +kernel

theorem bl_256 {k : Nat} (hk : k < 2 ^ 256) : bl k ≤ 256 := by
  rcases Nat.lt_or_ge 256 (bl k) with h | h
  · have := (bl_iff k 256).1 h
    omega
  · exact h

section
variable {v : Value} {w : World} (h : MD4 v w) {x y : Nat} (hx : P4.Fits x) (hy : P4.Fits y) (i : Bool)
include h hx hy
theorem lgood {g : Int} (hg : goodD nBnP x y 3 i = g) : Calls Tryz.prog 35 #[v, .agg (P4.pt x y i)] w fun r w' => r = .returned (.int .i64 g) ∧ Below w.heap.size w w' := by
  obtain ⟨c, rfl, hm⟩ := h
  obtain ⟨r, g1, g2, h0, h1, h2⟩ := hm.ex
  obtain ⟨f, hMF, _⟩ := h1.ga.ok.ex
  have e := P4.good_rel hMF (by decide +kernel) 3 x y i
  have hc := P4.Good_any h1 x y hx hy i
  rw [cB_is, ← e, hg] at hc
  exact hc

theorem lgroup {g gr : Int} (hg : goodD nBnP x y 3 i = g) (hgr : (if g = 0 then (if (dTimes nBnP x y i nBnR 256).2.2 = true then 0 else 72) else g) = gr) : Calls Tryz.prog 28 #[v, .agg (P4.pt x y i)] w fun r w' => r = .returned (.int .i64 gr) ∧ Below w.heap.size w w' := by
  obtain ⟨c, rfl, hm⟩ := h
  obtain ⟨r, g1, g2, h0, h1, h2⟩ := hm.ex
  obtain ⟨f, hMF, _⟩ := h1.ga.ok.ex
  have e := P4.good_rel hMF (by decide +kernel) 3 x y i
  have hc := P4.Group_any h1 x y hx hy hR256 i
  have hb : P4.belongsN nBnP P4.cB x y i nBnR = gr := by
    rw [cB_is, ← hgr]
    rw [hg] at e
    by_cases h0 : g = 0
    · rw [if_pos h0]
      exact P4.group_rel hMF (by decide +kernel) (e.symm.trans h0) (bl_256 hR256)
    · rw [if_neg h0]
      unfold P4.belongsN
      rw [if_neg (fun h9 => h0 (e.trans h9)), ← e]
  rw [hb] at hc
  exact hc

theorem lmul {g : Int} {q : P3} {k : Nat} (hk : k < 2 ^ 256) (hg : goodD nBnP x y 3 i = g) {D : P3} (hD : dTimes nBnP x y i k 256 = D) (hq : resP g D = q) : Calls Tryz.prog 43 #[v, .agg (P4.pt x y i), .agg (W4.cs (limb k))] w fun r w' => r = .returned (.tuple #[.agg (P4.pt q.1 q.2.1 q.2.2), .int .i64 g]) ∧ Below w.heap.size w w' := by
  subst hD
  obtain ⟨c, rfl, hm⟩ := h
  obtain ⟨r, g1, g2, h0, h1, h2⟩ := hm.ex
  obtain ⟨f, hMF, _⟩ := h1.ga.ok.ex
  have e := P4.good_rel hMF (by decide +kernel) 3 x y i
  have hc := P4.Mul_any h1 x y hx hy i k hk
  rw [hg] at e
  have hb : P4.mulP nBnP P4.cB x y i k = q := by
    rw [cB_is, ← hq]
    unfold resP
    by_cases h0 : g = 0
    · rw [if_pos h0]
      exact P4.mul_rel hMF (by decide +kernel) (e.symm.trans h0) (bl_256 hk)
    · rw [if_neg h0]
      unfold P4.mulP
      rw [if_neg (fun h9 => h0 (e.trans h9))]
      rfl
  rw [hb, cB_is, ← e] at hc
  exact hc

theorem lneg {g : Int} {q : P3} (hg : goodD nBnP x y 3 i = g) {D : P3} (hD : dNeg nBnP x y i = D) (hq : resP g D = q) : Calls Tryz.prog 41 #[v, .agg (P4.pt x y i)] w fun r w' => r = .returned (.tuple #[.agg (P4.pt q.1 q.2.1 q.2.2), .int .i64 g]) ∧ Below w.heap.size w w' := by
  subst hD
  obtain ⟨c, rfl, hm⟩ := h
  obtain ⟨r, g1, g2, h0, h1, h2⟩ := hm.ex
  obtain ⟨f, hMF, _⟩ := h1.ga.ok.ex
  have e := P4.good_rel hMF (by decide +kernel) 3 x y i
  have hc := P4.Neg_any h1 x y hx hy i
  rw [hg] at e
  have hb : P4.negP nBnP P4.cB x y i = q := by
    rw [cB_is, ← hq]
    unfold resP P4.negP
    by_cases h0 : g = 0
    · rw [if_pos h0, if_pos (e.symm.trans h0)]
      have hl := goodD_lt (hg.trans h0)
      unfold dNeg
      cases i with
      | true =>
        rw [if_pos rfl]
        obtain ⟨rfl, rfl⟩ := (P4.good_zero (e.symm.trans h0)).1 rfl
        rfl
      | false =>
        rw [if_neg (by decide)]
        show (x, (nBnP - y % nBnP) % nBnP, false) = _
        rw [Nat.mod_eq_of_lt hl.2, Nat.zero_add]
    · rw [if_neg h0, if_neg (fun h9 => h0 (e.trans h9))]
      rfl
  rw [hb, cB_is, ← e] at hc
  exact hc

theorem ladd {u z : Nat} (hu : P4.Fits u) (hz : P4.Fits z) (j : Bool) {e0 : Int} {q : P3} (he : (if goodD nBnP x y 3 i = 0 then goodD nBnP u z 3 j else goodD nBnP x y 3 i) = e0) {D : P3} (hD : dAdd nBnP x y i u z j = D) (hq : resP e0 D = q) : Calls Tryz.prog 38 #[v, .agg (P4.pt x y i), .agg (P4.pt u z j)] w fun r w' => r = .returned (.tuple #[.agg (P4.pt q.1 q.2.1 q.2.2), .int .i64 e0]) ∧ Below w.heap.size w w' := by
  subst hD
  obtain ⟨c, rfl, hm⟩ := h
  obtain ⟨r, g1, g2, h0, h1, h2⟩ := hm.ex
  obtain ⟨f, hMF, _⟩ := h1.ga.ok.ex
  have e := P4.good_rel hMF (by decide +kernel) 3 x y i
  have e2 := P4.good_rel hMF (by decide +kernel) 3 u z j
  have hc := P4.Add_any h1 x y hx hy u z hu hz i j
  have hn : P4.addN nBnP P4.cB x y i u z j = e0 := by
    rw [cB_is, ← he]
    unfold P4.addN
    rw [e, e2]
  have hb : P4.addP nBnP P4.cB x y i u z j = q := by
    rw [← hq]
    unfold resP
    by_cases h0 : e0 = 0
    · rw [if_pos h0]
      rw [h0] at hn
      rw [cB_is] at hn ⊢
      have g0 : P4.goodN nBnP 3 x y i = 0 := by
        unfold P4.addN at hn
        by_cases h9 : P4.goodN nBnP 3 x y i = 0
        · exact h9
        · rw [if_neg h9] at hn
          exact hn
      have g1 : P4.goodN nBnP 3 u z j = 0 := by
        unfold P4.addN at hn
        rwa [if_pos g0] at hn
      exact P4.add_rel hMF (by decide +kernel) fer_is g0 g1
    · rw [if_neg h0]
      unfold P4.addP
      rw [if_neg (fun h9 => h0 (hn.symm.trans h9))]
      rfl
  rw [hb, hn] at hc
  exact hc

end
section
variable (hFM : FM 4 nBnP) {w : World} {o : Value} (ho : DCv w o 4 nBnP 3 nBnR 1 2) {x y : Nat} (hx : P4.Fits x) (hy : P4.Fits y) {i : Bool} {p : Value} (hp : QD w p 4 x y i)
include hFM ho hx hy hp
theorem ogood {g : Int} (hg : goodD nBnP x y 3 i = g) : Calls Tryz.prog 36 #[o, p] w fun r w' => r = .returned (.int .i64 g) ∧ Below w.heap.size w w' := by
  rw [show P4.Fits = fun x => x < W4.R from rfl, pow_is] at hx hy
  obtain ⟨mv, fo, tv, b, r, bx, by_, rfl, hF, h2, h3, h4, h5⟩ := ho.ex
  obtain ⟨pa, pb, rfl, hpa, hpb⟩ := hp.ex
  have hF2 := hF
  obtain ⟨mv', fo', tv', e, h6, h7, h8⟩ := hF2.ex
  cases e
  have := good_loop (by decide) hFM x y 3 i hx hy w mv tv b r bx by_ (.bool false) pa pb fo hF h6 h2 hB3.1 ⟨h3.isSlice, h3.oneC⟩ ⟨h4.isSlice, h4.oneC⟩ ⟨h5.isSlice, h5.oneC⟩ ⟨rfl, rfl⟩ hpa hpb
  rw [hg] at this
  exact this

theorem ogroup {g gr : Int} (hg : goodD nBnP x y 3 i = g) (hgr : (if g = 0 then (if (dTimes nBnP x y i nBnR 256).2.2 = true then 0 else 72) else g) = gr) : Calls Tryz.prog 37 #[o, p] w fun r w' => r = .returned (.int .i64 gr) ∧ Below w.heap.size w w' := by
  rw [show P4.Fits = fun x => x < W4.R from rfl, pow_is] at hx hy
  have := dgroup_pt (by decide) hFM hB3 ho ⟨hx, hy⟩ hp
  rw [hg, hgr] at this
  exact this

theorem omul {g : Int} {k : Nat} {kv : Value} (hk : LW w kv 4 (limb k)) (hg : goodD nBnP x y 3 i = g) {D : P3} (hD : dTimes nBnP x y i k 256 = D) : Calls Tryz.prog 44 #[o, p, kv] w fun r w' => (∃ v, r = .returned v ∧ TqE 4 D g v w') ∧ Below w.heap.size w w' := by
  subst hD
  rw [show P4.Fits = fun x => x < W4.R from rfl, pow_is] at hx hy
  have := dmul_pt (by decide) hFM hB3 ho ⟨hx, hy⟩ hp hk
  rw [hg] at this
  exact this.mono fun r w' h => ⟨h.1.te (by decide), h.2⟩

theorem oneg {g : Int} (hg : goodD nBnP x y 3 i = g) {D : P3} (hD : dNeg nBnP x y i = D) : Calls Tryz.prog 42 #[o, p] w fun r w' => (∃ v, r = .returned v ∧ TqE 4 D g v w') ∧ Below w.heap.size w w' := by
  subst hD
  rw [show P4.Fits = fun x => x < W4.R from rfl, pow_is] at hx hy
  have := dneg_pt (by decide) hFM hB3 ho ⟨hx, hy⟩ hp
  rw [hg] at this
  exact this.mono fun r w' h => ⟨h.1.te (by decide), h.2⟩

theorem oadd {u z : Nat} (hu : P4.Fits u) (hz : P4.Fits z) {j : Bool} {q : Value} (hq : QD w q 4 u z j) {e0 : Int} (he : (if goodD nBnP x y 3 i = 0 then goodD nBnP u z 3 j else goodD nBnP x y 3 i) = e0) {D : P3} (hD : dAdd nBnP x y i u z j = D) : Calls Tryz.prog 39 #[o, p, q] w fun r w' => (∃ v, r = .returned v ∧ TqE 4 D e0 v w') ∧ Below w.heap.size w w' := by
  subst hD
  rw [show P4.Fits = fun x => x < W4.R from rfl, pow_is] at hx hy hu hz
  have := dadd_pt (by decide) hFM hB3 ho ⟨hx, hy⟩ ⟨hu, hz⟩ hp hq
  rw [he] at this
  exact this.mono fun r w' h => ⟨h.1.te (by decide), h.2⟩

end
theorem resP_lt {e : Int} {q : P3} (h : e = 0 → q.1 < W4.R ∧ q.2.1 < W4.R) : (resP e q).1 < W4.R ∧ (resP e q).2.1 < W4.R := by
  unfold resP
  by_cases h0 : e = 0
  · rw [if_pos h0]; exact h h0
  · rw [if_neg h0]; exact ⟨by decide +kernel, by decide +kernel⟩

/-- The law's answer: the same point, the same error. -/
theorem answer_all {w : World} {t : Value} {e : Int} {q p : P3} (he : e = 0 ∨ e = 70 ∨ e = 71) (hp : resP e q = p) (hl : p.1 < W4.R ∧ p.2.1 < W4.R) (hq : QE w t 4 q e) : Calls Tryz.prog 40 #[.agg (pn p.1 0 p.2.1 0 p.2.2), .int .i64 e, t, .int .i64 e] w fun r w' => r = .returned (.bool true) ∧ Below w.heap.size w w' := by
  rw [pow_is] at hl
  rcases he with rfl | rfl | rfl
  · have hp : q = p := hp
    subst hp
    obtain ⟨a, b, e1, h1, h2⟩ := (hq.ok rfl).ex
    exact answer_0 (by decide) _ _ hl.1 hl.2 (by decide +kernel) _ w t ⟨a, b, e1, h1, h2⟩
  · obtain rfl := hq.no (by decide)
    have hp : (0, 0, false) = p := hp
    subst hp
    exact answer_70 w
  · obtain rfl := hq.no (by decide)
    have hp : (0, 0, false) = p := hp
    subst hp
    exact answer_71 w

theorem good_three (x y : Nat) (i : Bool) : goodD nBnP x y 3 i = 0 ∨ goodD nBnP x y 3 i = 70 ∨ goodD nBnP x y 3 i = 71 := goodD_cases _ _ _ _ _

theorem add_three (x y u z : Nat) (i j : Bool) : (if goodD nBnP x y 3 i = 0 then goodD nBnP u z 3 j else goodD nBnP x y 3 i) = 0 ∨ (if goodD nBnP x y 3 i = 0 then goodD nBnP u z 3 j else goodD nBnP x y 3 i) = 70 ∨ (if goodD nBnP x y 3 i = 0 then goodD nBnP u z 3 j else goodD nBnP x y 3 i) = 71 := by
  split
  · exact goodD_cases _ _ _ _ _
  · exact goodD_cases _ _ _ _ _

theorem lt_R {a : Nat} (h : a < nBnP) : a < W4.R := Nat.lt_trans h (by decide +kernel)

theorem dAdd_lt {x y u z : Nat} {i j : Bool} (hx : x < nBnP ∧ y < nBnP) (hu : u < nBnP ∧ z < nBnP) : (dAdd nBnP x y i u z j).1 < nBnP ∧ (dAdd nBnP x y i u z j).2.1 < nBnP := by
  have hm : 0 < nBnP := by decide +kernel
  unfold dAdd
  split
  · exact hu
  · split
    · exact hx
    · unfold dSum
      split
      · split
        · exact ⟨hm, hm⟩
        · exact ⟨Nat.mod_lt _ hm, Nat.mod_lt _ hm⟩
      · exact ⟨Nat.mod_lt _ hm, Nat.mod_lt _ hm⟩

end Go.Proofs.YtcbdbnfgnonacaaGreat

namespace Go.Proofs.YtcbdbnfgnonacaaGreat
open Go.RowKit Go.Shelf
open P4 (P3)

theorem waits_waitE {ops : Array Oper} {n q i j : Nat} (h : i ≠ n) : waits .any (waitE ops n q) i j = waits .any ops i j := by
  unfold waits
  rw [waitE_at, if_neg (Ne.symm h)]

theorem dOf_waitE (ops : Array Oper) (n q i : Nat) : dOf (waitE ops n q) i = dOf ops i := by
  unfold dOf
  rw [waitE_at]
  by_cases h : n = i
  · rw [if_pos h]
    cases ops[i]? <;> rfl
  · rw [if_neg h]

theorem isAl_waitE (ops : Array Oper) (n q i : Nat) : isAl (waitE ops n q) i = isAl ops i := by
  unfold isAl
  rw [waitE_at]
  by_cases h : n = i
  · rw [if_pos h]
    cases ops[i]? <;> rfl
  · rw [if_neg h]

theorem opOK_waitE {P : Program} {ops : Array Oper} {Q : Exit → Act → World → Prop} {I : World → Prop} {Ps : List VP} {l : List Value} {ds : List Deferred} {q i : Nat} (hi : i < Ps.length) (h : OpOK P .any ops Q I Ps l ds i) : OpOK P .any (waitE ops Ps.length q) Q I Ps l ds i := by
  intro T w K hI hO hW hK
  rw [waitE_wp]
  refine h T w K hI (fun s hs => hO s ?_) (fun j hj => ?_) (fun v w' hb hp ha => ?_)
  · unfold outB at hs ⊢
    rw [List.all_eq_true] at hs ⊢
    intro j hj
    have := hs j hj
    rwa [dOf_waitE, waits_waitE (by have := List.mem_range.1 hj; omega)]
  · have := hW j (by rwa [waits_waitE (by omega)])
    rwa [dOf_waitE] at this
  · have := hK v w' hb hp (fun h9 => ha (by rwa [isAl_waitE] at h9))
    rwa [dOf_waitE] at this

theorem allOK_mono {p p' : Nat → Prop} : ∀ (Ps : List VP) (i : Nat), (∀ j, j < i + Ps.length → p j → p' j) → AllOK p Ps i → AllOK p' Ps i
  | [], _, _, _ => trivial
  | _ :: Ps, i, h, ho => ⟨h i (by simp) ho.1, allOK_mono Ps (i + 1) (fun j hj => h j (by simp only [List.length_cons]; omega)) ho.2⟩

/-- A region whose store need not wait for the part of a tuple that is told last. -/
theorem region2X {P : Program} {ops : Array Oper} {Q : Exit → Act → World → Prop} {W : World} {L : List Value} {ds : List Deferred} {kn : List (Nat × Value)} {id m : Nat} {b : Bool} (q : Nat) (Ds : List PD) (live : List Nat) (hL : L.length = m) (hk : KS L kn) (hst : StabD Ds) (hop : AllOK (OpOK P .any ops (Qn Q) (Up W) (PDs Ds) L ds) (PDs Ds) 0)
    (hend : ∀ w, Up W w → EndD w Ds (fun vals => Apt ops Ds.length vals → ∀ L', L'.length = m → KS L' (nextK ((List.range Ds.length).map (dOf ops)) vals kn live) → wpOp P ops (Qn Q) Ds.length (fun a w => wpOp P ops (Qn Q) (Ds.length + 1) (fun a w => Qn Q .normal a w) a w) { tmps := L'.toArray, defers := ds } w))
    (hm : P.follows .mixedOrders = true := by kernel_rfl) (hchk : (xchk ops Ds.length q && (((List.range ops.size).all fun i => match ops[i]? with
      | some o => o.after.all fun e => !Region.binds .any e || decide (e.on < i)
      | none => false) && (chkD .any (waitE ops Ds.length q) Ds.length m && (decide (Ds.length + 2 = ops.size) && waits .any ops (Ds.length + 1) Ds.length)))) = true := by kernel_rfl) :
    (Code.region id ops b).wp P Q { tmps := L.toArray, defers := ds } W := by
  rw [Bool.and_eq_true, Bool.and_eq_true, Bool.and_eq_true] at hchk
  obtain ⟨hx, hb, hc, hd⟩ := hchk
  obtain ⟨h1, h2⟩ := chk_nodup hc
  refine region_dag0 hm hb fun w' hw' => any_edge hx _ _ _ _ (by simp) ?_
  have hlen : (PDs Ds).length = Ds.length := PDs_len Ds
  have hop' : AllOK (OpOK P .any (waitE ops Ds.length q) (Qn Q) (Up W) (PDs Ds) L ds) (PDs Ds) 0 := allOK_mono _ _ (fun j hj h => by
    have := opOK_waitE (q := q) (by omega) h
    rwa [hlen] at this) hop
  have := any_dag2EA (P := P) (ops := waitE ops Ds.length q) (Q := Qn Q) (I := Up W) (w := W) (l := L) (ds := ds) (PDs Ds) (by
    rw [hlen, hL, waitE_size]
    simp only [Bool.and_eq_true] at hd ⊢
    exact ⟨hc, hd.1, by rw [waits_waitE (by omega)]; exact hd.2⟩) up_next hst.all (Below.refl _ _) (Below.refl _ _).drew hop' (fun w hw => EndP.mono (hend w hw).to (fun vs h ha l' hl' => by
      subst hl'
      rw [hlen] at ha ⊢
      have ha' : Apt ops Ds.length vs := fun i j hij => ha i j (by rw [isAl_waitE, isAl_waitE]; exact hij)
      have := h ha' _ (by rw [TV_len, hL]) (hk.next (by
        have e : (List.range Ds.length).map (dOf (waitE ops Ds.length q)) = (List.range Ds.length).map (dOf ops) := List.map_congr_left fun i _ => dOf_waitE ops _ q i
        rw [← e]; exact h1) (by
        have e : (List.range Ds.length).map (dOf (waitE ops Ds.length q)) = (List.range Ds.length).map (dOf ops) := List.map_congr_left fun i _ => dOf_waitE ops _ q i
        rw [← e, hL]; exact h2) live)
      rw [waitE_wp]
      have e2 : (fun (a : Act) (w : World) => wpOp P (waitE ops Ds.length q) (Qn Q) (Ds.length + 1) (fun a w => Qn Q .normal a w) a w) = fun a w => wpOp P ops (Qn Q) (Ds.length + 1) (fun a w => Qn Q .normal a w) a w := by
        funext a w
        exact waitE_wp _ _ _ _
      rw [e2]
      have e3 : TV ((List.range Ds.length).map (dOf (waitE ops Ds.length q))) vs L = TV ((List.range Ds.length).map (dOf ops)) vs L := by
        rw [List.map_congr_left fun i _ => dOf_waitE ops _ q i]
      rw [e3]
      exact this)) w' hw'
  rw [waitE_size] at this
  exact this

/-- The point of such a pair. -/
def TqP (n : Nat) (q : P3) (e : Int) (v : Value) (w : World) : Prop := ∃ a b i, v = .agg #[a, b, .bool i] ∧ Sh n a ∧ Sh n b ∧ QE w (.agg #[a, b, .bool i]) n q e

theorem stab_TqP (n : Nat) (q : P3) (e : Int) : Stab (TqP n q e) := by
  rintro v w w' ⟨a, b, i, e1, h1, h2, h3⟩ hb
  exact ⟨a, b, i, e1, h1, h2, h3.moved hb⟩

section
variable {P : Program} {ρ : Operand → Value} {o : Oper}
theorem ex_ext {x : Operand} {k : Nat} {a b v : Value} (ho : o.op = .extract x k) (hx : ρ x = .tuple #[a, b]) (hk : (#[a, b] : Array Value)[k]? = some v) (w : World) : (execOp ρ o).run P w = .ok (.value v) w := by
  unfold execOp
  match k, hk with
  | 0, hk => cases hk; simp [ho, hx, go_sem]
  | 1, hk => cases hk; simp [ho, hx, go_sem]
  | _ + 2, hk => cases hk

theorem ok_ext0 {x : Operand} {n : Nat} {q : P3} {e : Int} {u : Value} {w : World} (ho : o.op = .extract x 0) (hx : ρ x = u) (h : TqE n q e u w) : ∃ v w', (execOp ρ o).run P w = .ok (.value v) w' ∧ Below w.heap.size w w' ∧ TqP n q e v w' := by
  obtain ⟨a, b, i, rfl, h1, h2, h3⟩ := h
  exact ⟨_, w, ex_ext ho hx rfl w, Below.refl _ _, a, b, i, rfl, h1, h2, h3⟩

theorem ok_ext1 {x : Operand} {n : Nat} {q : P3} {e : Int} {u : Value} {w : World} (ho : o.op = .extract x 1) (hx : ρ x = u) (h : TqE n q e u w) : ∃ v w', (execOp ρ o).run P w = .ok (.value v) w' ∧ Below w.heap.size w w' ∧ Value.int .i64 e = v := by
  obtain ⟨a, b, i, rfl, h1, h2, h3⟩ := h
  exact ⟨_, w, ex_ext ho hx rfl w, Below.refl _ _, rfl⟩

theorem ex_neqs {x y : Operand} {t t2 : TypeId} {g : Int} (ho : o.op = .binOp .neq t x y t2) (hx : ρ x = .int .i64 g) (hy : ρ y = .int .i64 g) (w : World) : (execOp ρ o).run P w = .ok (.value (.bool false)) w := by
  unfold execOp
  simp [ho, hx, hy, go_sem]

theorem ex_rem8 {x y : Operand} {t t2 : TypeId} {a : Nat} (ho : o.op = .binOp .rem t x y t2) (hx : ρ x = .int .u64 (a : Nat)) (hy : ρ y = .int .u64 8) (w : World) : (execOp ρ o).run P w = .ok (.value (.int .u64 ((a % 8 : Nat) : Int))) w := by
  unfold execOp
  have e1 : Int.tmod (a : Int) 8 = ((a % 8 : Nat) : Int) := by rw [Int.tmod_eq_emod_of_nonneg (by omega)]; omega
  have e2 : IntKind.u64.wrap ((a % 8 : Nat) : Int) = ((a % 8 : Nat) : Int) := by rw [IntKind.wrap_u64]; omega
  simp [ho, hx, hy, go_sem]
  try omega

theorem ex_eq0 {x y : Operand} {t t2 : TypeId} {a : Nat} {b : Bool} (h8 : decide (a % 8 = 0) = b) (ho : o.op = .binOp .eql t x y t2) (hx : ρ x = .int .u64 ((a % 8 : Nat) : Int)) (hy : ρ y = .int .u64 0) (w : World) : (execOp ρ o).run P w = .ok (.value (.bool b)) w := by
  unfold execOp
  subst h8
  have e3 : ((a : Int) % 8 == 0) = decide (a % 8 = 0) := by rw [Bool.eq_iff_iff, beq_iff_eq, decide_eq_true_eq]; omega
  simp [ho, hx, hy, go_sem, e3]

end
theorem as_last {P : Program} {ops : List Oper} {Q : Exit → Act → World → Prop} {i d : Nat} {o : Oper} {K : Act → World → Prop} {L : List Value} {ds : List Deferred} {w : World} {v : Value} (ho : ops[i]? = some o) (hg : o.guard = none) (x : Operand) (hop : o.op = .assign x) (hd : o.dst = some d) (hx : Act.eval { tmps := L.toArray, defers := ds } x = v) (h : K { tmps := (L.set d v).toArray, defers := ds } w) : wpOp P ops.toArray Q i K { tmps := L.toArray, defers := ds } w := by
  refine wpOp_stepT ho (fun K' hK' => ?_)
  have hw : Region.wanted o (yielded ops.toArray (Act.tmps { tmps := L.toArray, defers := ds })) = true := by
    unfold Region.wanted
    rw [hg]
  rw [if_pos hw]
  unfold Oper.wp
  rw [ex_assign hop hx]
  show K' _ _
  rw [hd, put_list]
  exact hK' _ _ h

theorem KS.setd {T : List Value} {d : Nat} {v : Value} {kn : List (Nat × Value)} (hd : d < T.length) (h : KS T kn) (hc : (kn.map (·.1)).contains d = false) : KS (T.set d v) ((d, v) :: kn) := ⟨by rw [List.getElem?_set_self hd], KS.set1 hd h hc⟩

theorem alP (w : World) : (Instr.alloc 34 true (.tuple #[])).run Tryz.prog w = .ok (.pointer (some ⟨w.heap.size, 0, none⟩)) (w.alloc (.cells (P4.pt 0 0 false) 34 (0, 0))) := by
  rw [P4.pt_eq, P4.nv_eq]
  kernel_rfl

theorem st_pt {ops : List Oper} {Q : Exit → Act → World → Prop} {i : Nat} {o : Oper} {K : Act → World → Prop} {a : Act} {w : World} (ho : ops[i]? = some o) (hg : o.guard = none) (x y : Operand) (hop : o.op = .store 34 x y) (hd : o.dst = none)
    (B : Nat) {a1 b1 a2 b2 : Nat} {j1 j2 : Bool} (hx : a.eval x = .pointer (some ⟨B, 0, none⟩)) (hy : a.eval y = .agg (P4.pt a2 b2 j2)) (hB : BX w B (P4.pt a1 b1 j1) 34)
    (h : ∀ w', But B w w' → BX w' B (P4.pt a2 b2 j2) 34 → K a w') : wpOp Tryz.prog ops.toArray Q i K a w := by
  refine wpOp_stepT ho (fun K' hK' => ?_)
  have hw : Region.wanted o (yielded ops.toArray a.tmps) = true := by
    unfold Region.wanted
    rw [hg]
  rw [if_pos hw]
  refine wp_store_midN _ x y hop hd B 0 (P4.pt a2 b2 j2) hx hy (there_of hB.heap (by rw [P4.pt_size, P4.pt_size])) (P4.infoA (P4.pt_size _ _ _)) (P4.pt_one _ _ _) (hK' _ _ (h _ (But.sets _ _ (But.refl B w)) ⟨?_⟩))
  have := blk_sets (P4.pt a2 b2 j2).toList 0 hB.heap
  rwa [putAll_eq (by rw [P4.pt_size, P4.pt_size])] at this

theorem undWd0 : Tryz.prog.underlying 65 = some (.array 4 27) := by kernel_rfl

theorem infoWd0 (f : Nat → Nat) : (Tryz.prog.info? 65).map (·.size) = some (W4.cs f).size := by
  rw [W4.cs_size]
  kernel_rfl

theorem lw_box {w : World} {B k : Nat} (h : BX w B (W4.cs (limb k)) 65) : LW w (.slice (some ⟨B, 0, none⟩) 4 4) 4 (limb k) := ⟨_, _, _, rfl, by decide, by decide, lt_of_block h.heap, fun j hj => by
  rw [Nat.zero_add]
  refine blk_cell h.heap ?_
  match j, hj with
  | 0, _ => rfl
  | 1, _ => rfl
  | 2, _ => rfl
  | 3, _ => rfl
  | _ + 4, hj => omega⟩

end Go.Proofs.YtcbdbnfgnonacaaGreat
