/-
  The document's products of words, all eight limbs.
-/
import Derived.Test.YtpnijncoldihfaaSumsC27
import Derived.Test.YtpnijncoldihfaaSumsC06
namespace Go.Proofs.Ytpnijncoldihfaa
open Go.RowKit Go.Shelf

theorem endRow {P : Program} {fn : Func} {R : Ending → World → Prop} {a : Act} {w : World} {id L R0 i j k ty ty1 ty2 : Nat} {C : Array Value} {d : TypeDesc} {pos1 pos2 aft1 aft2} (hf : fn.results = #[.cell j ty]) (hi : a.eval (.tmp i) = .pointer (some ⟨L, 0, none⟩)) (hj : a.eval (.tmp j) = .pointer (some ⟨R0, 0, none⟩)) (hjk : k ≠ j) (hk : k < a.tmps.size) (hd : a.defers = [])
    (hu : P.underlying ty = some d) (hr : d.isRow = true) (hs : (P.info? ty).map (·.size) = some C.size) (h1 : C.all (·.oneCell') = true)
    (hL : w.rangeAt L 0 C.toList) (hR : w.there R0 0 C.size) (h : ∀ wS, But R0 w wS → R (.returned (.agg C)) wS) :
    ((Code.region id #[{ dst := some k, op := .load ty (.tmp i), type := ty1, pos := pos1, after := aft1, guard := none }, { dst := none, op := .store ty (.tmp j) (.tmp k), type := ty2, pos := pos2, after := aft2, guard := none }] false).seq .ret).wp P (bodyPost P fn R) a w := by
  refine wp_seq ?_
  refine wp_region_list ?_
  have hj' : (a.put (some k) (.agg C)).eval (.tmp j) = .pointer (some ⟨R0, 0, none⟩) := by rw [put_ne _ _ hjk, hj]
  have hs' : (P.info? ty).map (·.size) = some C.toList.length := by rw [Array.length_toList]; exact hs
  refine wpList_load_mid rfl ty (.tmp i) rfl L 0 hi C.toList _ hL hu hr hs' ?_
  refine wpList_store_mid rfl ty (.tmp j) (.tmp k) rfl R0 0 C hj' (put_same _ _ _ hk) hR hs h1 ?_
  refine wpList_nil ?_
  refine wp_ret ?_
  have hb := World.rangeAt_setCells_same w R0 0 C.toList (by rw [Array.length_toList]; exact hR)
  exact bodyPost_ret_by (results_cell hf hj' (run_loadVar_mid _ R0 0 ty C.toList _ hb hu hr hs')) hd (h _ (But.sets _ _ (But.refl _ _)))

theorem rangeOf {w : World} {b t : Nat} {C : Array Value} (h : w.heap[b]? = some (.cells C t (0, 0))) : w.rangeAt b 0 C.toList := fun j v hv =>
  blk_cell (o := 0 + j) (v := v) h (by rw [Nat.zero_add]; rw [Array.getElem?_toList] at hv; exact hv)

theorem thereOf {w : World} {b t : Nat} {C : Array Value} (h : w.heap[b]? = some (.cells C t (0, 0))) : w.there b 0 C.size := fun j hj =>
  ⟨(rangeOf h).isSome j (by rw [Array.length_toList]; exact hj), blk_free h⟩

theorem under36 : Try.prog.underlying 36 = some (.array 8 22) := by kernel_rfl

theorem size36 : (Try.prog.info? 36).map (·.size) = some 8 := by kernel_rfl

set_option maxHeartbeats 4000000 in
set_option maxRecDepth 100000 in
theorem refWide_any (X Y : Nat) (w : World) : Calls Try.prog 31 #[wv X, wv Y] w fun e w' => e = .returned (w8 (X % M256 * (Y % M256))) ∧ Below w.heap.size w w' := by
  have c1 := fun W => times_any X Y W
  generalize X % M256 * (Y % M256) = N at c1 ⊢
  have hl : ∀ i, IntKind.u64.wrap ((dg N (2 * i) : Int) + IntKind.u64.wrap ((dg N (2 * i + 1) : Int) * 4294967296)) = (limb N i : Int) := fun i => by
    have h1 := dg_lt N (2 * i + 1)
    have h2 := wv_digits N i
    have h3 := limb_lt N i
    rw [show IntKind.u64.wrap ((dg N (2 * i + 1) : Int) * 4294967296) = (dg N (2 * i + 1) : Int) * 4294967296 by rw [IntKind.wrap_u64]; omega, h2, IntKind.wrap_u64]
    omega
  have e0 : IntKind.u64.wrap ((dg N 0 : Int) + IntKind.u64.wrap ((dg N 1 : Int) * 4294967296)) = (limb N 0 : Int) := hl 0
  have e1 : IntKind.u64.wrap ((dg N 2 : Int) + IntKind.u64.wrap ((dg N 3 : Int) * 4294967296)) = (limb N 1 : Int) := hl 1
  have e2 : IntKind.u64.wrap ((dg N 4 : Int) + IntKind.u64.wrap ((dg N 5 : Int) * 4294967296)) = (limb N 2 : Int) := hl 2
  have e3 : IntKind.u64.wrap ((dg N 6 : Int) + IntKind.u64.wrap ((dg N 7 : Int) * 4294967296)) = (limb N 3 : Int) := hl 3
  have e4 : IntKind.u64.wrap ((dg N 8 : Int) + IntKind.u64.wrap ((dg N 9 : Int) * 4294967296)) = (limb N 4 : Int) := hl 4
  have e5 : IntKind.u64.wrap ((dg N 10 : Int) + IntKind.u64.wrap ((dg N 11 : Int) * 4294967296)) = (limb N 5 : Int) := hl 5
  have e6 : IntKind.u64.wrap ((dg N 12 : Int) + IntKind.u64.wrap ((dg N 13 : Int) * 4294967296)) = (limb N 6 : Int) := hl 6
  have e7 : IntKind.u64.wrap ((dg N 14 : Int) + IntKind.u64.wrap ((dg N 15 : Int) * 4294967296)) = (limb N 7 : Int) := hl 7
  have HR := hideP (show w8 N = .agg #[.int .u64 (limb N 0), .int .u64 (limb N 1), .int .u64 (limb N 2), .int .u64 (limb N 3), .int .u64 (limb N 4), .int .u64 (limb N 5), .int .u64 (limb N 6), .int .u64 (limb N 7)] from rfl)
  clear hl
  unfold lv c17 at c1
  generalize dg N 0 = g0 at *
  generalize dg N 1 = g1 at *
  generalize dg N 2 = g2 at *
  generalize dg N 3 = g3 at *
  generalize dg N 4 = g4 at *
  generalize dg N 5 = g5 at *
  generalize dg N 6 = g6 at *
  generalize dg N 7 = g7 at *
  generalize dg N 8 = g8 at *
  generalize dg N 9 = g9 at *
  generalize dg N 10 = g10 at *
  generalize dg N 11 = g11 at *
  generalize dg N 12 = g12 at *
  generalize dg N 13 = g13 at *
  generalize dg N 14 = g14 at *
  generalize dg N 15 = g15 at *
  generalize dg N 16 = g16 at *
  generalize limb N 0 = l0 at *
  generalize limb N 1 = l1 at *
  generalize limb N 2 = l2 at *
  generalize limb N 3 = l3 at *
  generalize limb N 4 = l4 at *
  generalize limb N 5 = l5 at *
  generalize limb N 6 = l6 at *
  generalize limb N 7 = l7 at *
  generalize w8 N = res at HR ⊢
  obtain ⟨x0, x1, x2, x3, hx⟩ := wv_form X
  obtain ⟨y0, y1, y2, y3, hy⟩ := wv_form Y
  simp only [hx, hy] at c1 ⊢
  have C1 := hideP c1
  clear c1 hx hy
  go_enter Try.func31, Try.ntmps31
  go_wp2_with fail
  refine at_world_q (fun W0 hW0 => ?_)
  have HBr : W0.heap[w.heap.size + 1 + 1]? = some (.cells #[.int .u64 0, .int .u64 0, .int .u64 0, .int .u64 0, .int .u64 0, .int .u64 0, .int .u64 0, .int .u64 0] 36 (0, 0)) := by
    rw [hW0]
    exact heap_new2 _ _ _ _
  have HBW : Hid (Below w.heap.size w W0) := by
    show Below _ _ _
    rw [hW0]
    repeat first | exact Below.refl _ _ | (refine Below.alloc ?_ (by simp <;> omega) _)
  clear hW0
  refine (C1.out _).mono ?_
  rintro e w1 ⟨rfl, hb⟩
  replace HBr := (hb.block _ (lt_of_block HBr)).trans HBr
  replace HBW := hideP (HBW.out.trans (hb.mono HBW.out.size))
  clear hb
  have HLT := hideP (lt_of_block HBr)
  have j0 := blk_cell (o := 0) (v := .int .u64 0) HBr rfl
  have j1 := blk_cell (o := 1) (v := .int .u64 0) HBr rfl
  have j2 := blk_cell (o := 2) (v := .int .u64 0) HBr rfl
  have j3 := blk_cell (o := 3) (v := .int .u64 0) HBr rfl
  have j4 := blk_cell (o := 4) (v := .int .u64 0) HBr rfl
  have j5 := blk_cell (o := 5) (v := .int .u64 0) HBr rfl
  have j6 := blk_cell (o := 6) (v := .int .u64 0) HBr rfl
  have j7 := blk_cell (o := 7) (v := .int .u64 0) HBr rfl
  have jf : ∀ o, w1.frozen? ⟨w.heap.size + 1 + 1, o, none⟩ = false := fun o => blk_free HBr
  have hne1 : w.heap.size + 1 + 1 ≠ w1.heap.size := by have := HLT.out; omega
  have hne2 : w.heap.size + 1 + 1 ≠ w1.heap.size + 1 := by have := HLT.out; omega
  have hlt3 : w.heap.size + 1 + 1 < w1.heap.size := HLT.out
  have HBR := hideP HBr
  clear HBr j0 j1 j2 j3 j4 j5 j6 j7 jf hne1 hne2 hlt3
  go_wp2_with fail
  rename_i Q' K hK
  have HK := hideP hK
  clear hK
  refine wp_loop_rounds 9 ?_
  rw [rounds_succ]
  go_wp2_with fail
  go_region
  go_wp2_with fail
  rw [rounds_succ]
  go_wp2_with fail
  go_region
  go_wp2_with fail
  rw [rounds_succ]
  go_wp2_with fail
  go_region
  go_wp2_with fail
  rw [rounds_succ]
  go_wp2_with fail
  go_region
  go_wp2_with fail
  rw [rounds_succ]
  go_wp2_with fail
  go_region
  go_wp2_with fail
  rw [rounds_succ]
  go_wp2_with fail
  go_region
  go_wp2_with fail
  rw [rounds_succ]
  go_wp2_with fail
  go_region
  go_wp2_with fail
  rw [rounds_succ]
  go_wp2_with fail
  go_region
  go_wp2_with fail
  rw [rounds_succ]
  go_wp2_with fail
  refine HK.out _ _ ?_
  refine at_world_t (fun W2 hW2 => ?_)
  have HB1 : W2.heap[w.heap.size + 1 + 1]? = some (.cells #[.int .u64 0, .int .u64 0, .int .u64 0, .int .u64 0, .int .u64 0, .int .u64 0, .int .u64 0, .int .u64 0] 36 (0, 0)) := by
    rw [hW2]
    refine Eq.trans ?_ HBR.out
    have := HLT.out
    show (((w1.alloc _).alloc _)).heap[_]? = _
    rw [heap_old _ _ (by simp <;> omega), heap_old _ _ (by omega)]
  have HB2 : W2.heap[w1.heap.size + 1]? = some (.cells #[.int .u64 l0, .int .u64 l1, .int .u64 l2, .int .u64 l3, .int .u64 l4, .int .u64 l5, .int .u64 l6, .int .u64 l7] 36 (0, 0)) := by
    rw [hW2]
    exact heap_new1 _ _ _
  have HBW2 : Hid (Below w.heap.size w W2) := by
    show Below _ _ _
    rw [hW2]
    have hz := HBW.out.size
    iterate 8 apply Below.drew
    exact (HBW.out.alloc hz _).alloc (by simp <;> omega) _
  clear hW2 HBR
  have HT : W2.there (w.heap.size + 1 + 1) 0 8 := thereOf HB1
  refine endRow (C := #[.int .u64 l0, .int .u64 l1, .int .u64 l2, .int .u64 l3, .int .u64 l4, .int .u64 l5, .int .u64 l6, .int .u64 l7]) rfl rfl rfl (by decide) (by show 28 < 29; decide) rfl under36 rfl size36 (by simp [Value.oneCell']) (rangeOf HB2) HT ?_
  intro wS h2
  exact ⟨by rw [HR.out], HBW2.out.trans (h2.below.mono (by omega))⟩

end Go.Proofs.Ytpnijncoldihfaa
