/-
  The document's products of words, all eight limbs.
-/
import Derived.Test.YtpnijncoldihfaaBitsC01
import Derived.Test.YtpnijncoldihfaaBitsC18
import Derived.Test.YtpnijncoldihfaaBitsC05
namespace Go.Proofs.Ytpnijncoldihfaa
open Go.RowKit Go.Shelf

theorem eq_words (a b c d a' b' c' d' : Int) (W : World) : (Op.equalIn 10000 24 (.agg #[.int .u64 a, .int .u64 b, .int .u64 c, .int .u64 d]) (.agg #[.int .u64 a', .int .u64 b', .int .u64 c', .int .u64 d'])).run Try.prog W = .ok (a == a' && (b == b' && (c == c' && d == d'))) W := by
  have h : ∀ x y : Int, (Op.equalIn 9999 22 (.int .u64 x) (.int .u64 y)).run Try.prog W = .ok (x == y) W := fun x y => by
    unfold Op.equalIn
    simp [go_sem]
  unfold Op.equalIn
  simp [go_sem, List.range', h]
  by_cases h1 : a = a' <;> by_cases h2 : b = b' <;> by_cases h3 : c = c' <;> by_cases h4 : d = d' <;> simp [go_sem, h1, h2, h3, h4]

end Go.Proofs.Ytpnijncoldihfaa

namespace Go.Proofs.Ytpnijncoldihfaa
open Go.RowKit Go.Shelf

theorem mod_lt17 (X : Nat) : X % M256 < 4294967296 ^ 17 := Nat.lt_of_lt_of_le (Nat.mod_lt _ M256_pos) (by decide)

set_option maxHeartbeats 2000000 in
set_option maxRecDepth 100000 in
theorem refCmp_any (X Y : Nat) (w : World) : Calls Try.prog 19 #[wv X, wv Y] w fun e w' => e = .returned (.int .i64 (cmpI (X % M256) (Y % M256))) ∧ Below w.heap.size w w' := by
  have c1 := fun W => fromWord_any X W
  have c2 := fun W => fromWord_any Y W
  have c3 := fun W => order_any (X % M256) (Y % M256) (mod_lt17 X) (mod_lt17 Y) W
  generalize cmpI (X % M256) (Y % M256) = res at c3 ⊢
  generalize lv (X % M256) = la at c1 c3
  generalize lv (Y % M256) = lb at c2 c3
  obtain ⟨x0, x1, x2, x3, hx⟩ := wv_form X
  obtain ⟨y0, y1, y2, y3, hy⟩ := wv_form Y
  simp only [hx, hy] at c1 c2 ⊢
  have C1 := hideP c1
  have C2 := hideP c2
  have C3 := hideP c3
  clear c1 c2 c3 hx hy
  go_enter Try.func19, Try.ntmps19
  go_wp2_with fail
  refine at_world_t (fun W0 hW0 => ?_)
  have HBx : W0.heap[w.heap.size]? = some (.cells #[.int .u64 x0, .int .u64 x1, .int .u64 x2, .int .u64 x3] 23 (0, 0)) := by
    rw [hW0, heap_old _ _ (by simp <;> omega)]
    exact heap_new _ _
  have HBy : W0.heap[w.heap.size + 1]? = some (.cells #[.int .u64 y0, .int .u64 y1, .int .u64 y2, .int .u64 y3] 23 (0, 0)) := by
    rw [hW0]
    exact heap_new1 _ _ _
  have HBW : Hid (Below w.heap.size w W0) := by
    show Below _ _ _
    rw [hW0]
    exact (((Below.refl _ w).alloc (Nat.le_refl _) _).alloc (by simp) _)
  clear hW0
  obtain ⟨cx0, cx1, cx2, cx3⟩ := cells4 HBx
  have hlx := lt_of_block HBx
  obtain ⟨cy0, cy1, cy2, cy3⟩ := cells4 HBy
  have hly := lt_of_block HBy
  refine wp_region_heldS (S := fun V => Below W0.heap.size W0 V) (by kernel_rfl) (Below.refl _ _).drew (fun hS => ?_)
  refine wpAnyH_takeL (i := 0) (v := ?_) rfl (by kernel_rfl) (by kernel_rfl) (by kernel_rfl) (fun _ _ _ h => h) (Or.inl ⟨by kernel_rfl, ?_⟩) hS ?_
  rotate_left
  · intro V hV
    have k0 := (hV.cell (p := ⟨w.heap.size, 0, none⟩) hlx).trans cx0
    have k1 := (hV.cell (p := ⟨w.heap.size, 1, none⟩) hlx).trans cx1
    have k2 := (hV.cell (p := ⟨w.heap.size, 2, none⟩) hlx).trans cx2
    have k3 := (hV.cell (p := ⟨w.heap.size, 3, none⟩) hlx).trans cx3
    go_simp
    (try with_reducible rfl)
  simp only [put_list, List.set_cons_succ, List.set_cons_zero]
  refine wpAnyH_takeL (i := 2) (v := ?_) rfl (by kernel_rfl) (by kernel_rfl) (by kernel_rfl) (fun _ _ _ h => h) (Or.inl ⟨by kernel_rfl, ?_⟩) hS ?_
  rotate_left
  · intro V hV
    have k0 := (hV.cell (p := ⟨w.heap.size + 1, 0, none⟩) hly).trans cy0
    have k1 := (hV.cell (p := ⟨w.heap.size + 1, 1, none⟩) hly).trans cy1
    have k2 := (hV.cell (p := ⟨w.heap.size + 1, 2, none⟩) hly).trans cy2
    have k3 := (hV.cell (p := ⟨w.heap.size + 1, 3, none⟩) hly).trans cy3
    go_simp
    (try with_reducible rfl)
  simp only [put_list, List.set_cons_succ, List.set_cons_zero]
  refine wpAnyH_ready (rs := [1]) (by kernel_rfl) (by simp) (AllReadyH.cons rfl (fun K hK => ?_) AllReadyH.nil)
  go_simp
  refine (C1.out _).mono ?_
  rintro e U1 ⟨rfl, hbc⟩
  refine hK.out _ _ (hS.trans (hbc.mono hS.size)) (fun hS => ?_)
  clear hK K hbc
  refine wpAnyH_ready (rs := [3]) (by kernel_rfl) (by simp) (AllReadyH.cons rfl (fun K hK => ?_) AllReadyH.nil)
  go_simp
  refine (C2.out _).mono ?_
  rintro e U2 ⟨rfl, hbc⟩
  refine hK.out _ _ (hS.trans (hbc.mono hS.size)) (fun hS => ?_)
  clear hK K hbc
  refine wpAnyH_ready (rs := [4]) (by kernel_rfl) (by simp) (AllReadyH.cons rfl (fun K hK => ?_) AllReadyH.nil)
  go_simp
  refine (C3.out _).mono ?_
  rintro e U3 ⟨rfl, hbc⟩
  refine hK.out _ _ (hS.trans (hbc.mono hS.size)) (fun hS => ?_)
  clear hK K hbc
  refine wpAnyH_ready (rs := [5]) (by kernel_rfl) (by simp) (AllReadyH.cons rfl (fun K hK => ?_) AllReadyH.nil)
  go_simp
  refine hK.out _ _ hS (fun hS => ?_)
  clear hK K
  refine wpAnyH_done (by kernel_rfl) ?_ _
  go_wp2_with fail
  go_ret
  exact ⟨rfl, HBW.out.trans (hS.mono HBW.out.size)⟩

set_option maxHeartbeats 2000000 in
set_option maxRecDepth 100000 in
theorem same_any (X : Nat) (w : World) : Calls Try.prog 20 #[wv X, wv X] w fun e w' => e = .returned (.bool true) ∧ Below w.heap.size w w' := by
  obtain ⟨x0, x1, x2, x3, hx⟩ := wv_form X
  rw [hx]
  have heq : ∀ W : World, (Op.equalIn 10000 24 (.agg #[.int .u64 x0, .int .u64 x1, .int .u64 x2, .int .u64 x3]) (.agg #[.int .u64 x0, .int .u64 x1, .int .u64 x2, .int .u64 x3])).run Try.prog W = .ok true W := fun W => by rw [eq_words]; simp
  clear hx
  go_enter Try.func20, Try.ntmps20
  go_wp2_with fail
  go_ret
  refine ⟨rfl, ?_⟩
  repeat first | exact Below.refl _ _ | apply Below.drew | (refine Below.alloc ?_ (by simp <;> omega) _) | (refine Below.setCell ?_ (by simp <;> omega) _)

end Go.Proofs.Ytpnijncoldihfaa

namespace Go.Proofs.Ytpnijncoldihfaa
open Go.RowKit Go.Shelf

theorem endRow {P : Program} {fn : Func} {R : Ending → World → Prop} {a : Act} {w : World} {id L R0 i j k ty ty1 ty2 : Nat} {C : Array Value} {d : TypeDesc} {pos1 pos2 aft1 aft2} (hf : fn.results = #[.cell j ty]) (hi : a.eval (.tmp i) = .pointer (some ⟨L, 0, none⟩)) (hj : a.eval (.tmp j) = .pointer (some ⟨R0, 0, none⟩)) (hjk : k ≠ j) (hk : k < a.tmps.size) (hd : a.defers = [])
    (hu : P.underlying ty = some d) (hr : d.isRow = true) (hs : (P.info? ty).map (·.size) = some C.size) (h1 : C.all (·.oneCell') = true)
    (hL : w.rangeAt L 0 C.toList) (hR : w.there R0 0 C.size) (h : ∀ wS, But R0 w wS → R (.returned (.agg C)) wS) :
    ((Code.region id #[{ dst := some k, op := .load ty (.tmp i), type := ty1, pos := pos1, after := aft1, guard := none }, { dst := none, op := .store ty (.tmp j) (.tmp k), type := ty2, pos := pos2, after := aft2, guard := none }] false).seq .ret).wp P (bodyPost P fn R) a w := by
  refine wp_seq ?_
  refine wp_region_list ?_
  have hj' : (a.put (some k) (.agg C)).eval (.tmp j) = .pointer (some ⟨R0, 0, none⟩) := by rw [put_ne _ _ hjk, hj]
  have hs' : (P.info? ty).map (·.size) = some C.toList.length := by rw [Array.length_toList]; exact hs
  refine wpList_load_mid rfl ty (.tmp i) rfl L 0 hi C.toList _ hL hu hr hs' ?_
  refine wpList_store_mid rfl ty (.tmp j) (.tmp k) rfl R0 0 C hj' (put_same _ _ _ hk) hR hs h1 ?_
  refine wpList_nil ?_
  refine wp_ret ?_
  have hb := World.rangeAt_setCells_same w R0 0 C.toList (by rw [Array.length_toList]; exact hR)
  exact bodyPost_ret_by (results_cell hf hj' (run_loadVar_mid _ R0 0 ty C.toList _ hb hu hr hs')) hd (h _ (But.sets _ _ (But.refl _ _)))

theorem rangeOf {w : World} {b t : Nat} {C : Array Value} (h : w.heap[b]? = some (.cells C t (0, 0))) : w.rangeAt b 0 C.toList := fun j v hv =>
  blk_cell (o := 0 + j) (v := v) h (by rw [Nat.zero_add]; rw [Array.getElem?_toList] at hv; exact hv)

theorem thereOf {w : World} {b t : Nat} {C : Array Value} (h : w.heap[b]? = some (.cells C t (0, 0))) : w.there b 0 C.size := fun j hj =>
  ⟨(rangeOf h).isSome j (by rw [Array.length_toList]; exact hj), blk_free h⟩

end Go.Proofs.Ytpnijncoldihfaa
