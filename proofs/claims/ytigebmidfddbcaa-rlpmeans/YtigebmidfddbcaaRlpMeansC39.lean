/-
  Regions that draw their order: operations that may come first.
-/
import Derived.Test.YtigebmidfddbcaaRlpMeansC38
import Derived.Test.YtigebmidfddbcaaRlpMeansC11
namespace Go.Proofs.Ytigebmidfddbcaa
open Go.RowKit Go.Shelf

/-- Kids out of a row's cells. -/
theorem kids_of_row {V : World} {G : Nat} {ks : List Tree} (h : ∀ j t, ks[j]? = some t → ∃ v0 v1 v2, V.cell? ⟨G, j * 3, none⟩ = some v0 ∧ V.cell? ⟨G, j * 3 + 1, none⟩ = some v1 ∧ V.cell? ⟨G, j * 3 + 2, none⟩ = some v2 ∧ IsItem V t (.agg #[v0, v1, v2])) : IsKids V ks (some ⟨G, 0, none⟩) 0 := by
  have hgo : ∀ (ts : List Tree) (i : Nat), (∀ j t, ts[j]? = some t → ks[i + j]? = some t) → IsKids V ts (some ⟨G, 0, none⟩) i := by
    intro ts
    induction ts with
    | nil => intro i _; unfold IsKids; trivial
    | cons t ts ih =>
      intro i hi
      obtain ⟨v0, v1, v2, e0, e1, e2, hit⟩ := h i t (hi 0 t rfl)
      unfold IsKids
      exact ⟨⟨G, v0, v1, v2, rfl, e0, e1, e2, hit⟩, ih (i + 1) fun j u hu => by
        rw [show i + 1 + j = i + (j + 1) by omega]
        exact hi (j + 1) u hu⟩
  exact hgo ks 0 fun j t ht => by rw [Nat.zero_add]; exact ht

/-- A row of two items. -/
theorem kids_two {V : World} {G : Nat} {t1 t2 : Tree} {a0 a1 a2 b0 b1 b2 : Value} (h : V.heap[G]? = some (.cells #[a0, a1, a2, b0, b1, b2] 26 (0, 0))) (h1 : IsItem V t1 (.agg #[a0, a1, a2])) (h2 : IsItem V t2 (.agg #[b0, b1, b2])) :
    KS V (some ⟨G, 0, none⟩) 2 2 ∧ IsKids V [t1, t2] (some ⟨G, 0, none⟩) 0 := by
  refine ⟨⟨Nat.le_refl _, by decide, Or.inr ⟨G, rfl⟩⟩, kids_of_row fun j t ht => ?_⟩
  match j, ht with
  | 0, ht => cases ht; exact ⟨a0, a1, a2, blk_cell h rfl, blk_cell h rfl, blk_cell h rfl, h1⟩
  | 1, ht => cases ht; exact ⟨b0, b1, b2, blk_cell h rfl, blk_cell h rfl, blk_cell h rfl, h2⟩
  | j + 2, ht => simp at ht

/-- A row of items is laid out anew, behind a slice that has nothing. -/
theorem append_row0 {w0 w : World} {ts : List Tree} {g c ty : Nat} (bo : Option Addr) (hk : IsKids w0 ts (some ⟨g, 0, none⟩) 0) (hb0 : Below w0.heap.size w0 w) (h0 : 0 < ts.length) (hn : ts.length ≤ 3518437208884) :
    ∃ cap w', (Builtin.append_ #[24, 24] ty #[.slice bo 0 0, .slice (some ⟨g, 0, none⟩) ts.length c]).run Try.prog w = .ok (.slice (some ⟨w.heap.size, 0, none⟩) ts.length cap) w' ∧ Below w.heap.size w w' ∧ ts.length ≤ cap ∧ cap ≤ maxLen ∧ ∀ j t, ts[j]? = some t → ∃ v0 v1 v2, w'.cell? ⟨w.heap.size, j * 3, none⟩ = some v0 ∧ w'.cell? ⟨w.heap.size, j * 3 + 1, none⟩ = some v1 ∧ w'.cell? ⟨w.heap.size, j * 3 + 2, none⟩ = some v2 ∧ IsItem w0 t (.agg #[v0, v1, v2]) := by
  have h := hk.moved hb0
  obtain ⟨i0, hif, hz0, hz1, hz2⟩ := info_parts Try.infoItem
  have hT : Try.prog.underlying 24 = some (.slice 26) := by kernel_rfl
  have hnews : ∀ j u, (rowCells w g ts.length)[j]? = some u → w.cell? ((⟨g, 0, none⟩ : Addr).add j) = some u := by
    intro j u hu
    have hj := (List.getElem?_eq_some_iff.1 hu).1
    rw [rowCells_len] at hj
    obtain ⟨u', hu', _⟩ := h.cell hj
    rw [rowCells_get hj hu'] at hu
    cases hu
    rw [show (⟨g, 0, none⟩ : Addr).add j = ⟨g, j, none⟩ by unfold Addr.add; split <;> simp_all]
    exact hu'
  have hone : ∀ u ∈ rowCells w g ts.length, u.oneCell' = true := by
    intro u hu
    obtain ⟨j, hj, e⟩ := List.mem_iff_getElem.1 hu
    rw [rowCells_len] at hj
    obtain ⟨u', hu', h1⟩ := h.cell hj
    have := rowCells_get hj hu'
    rw [List.getElem?_eq_getElem (by rw [rowCells_len]; exact hj), e] at this
    cases this
    exact h1
  have hs : Src Try.prog i0.size 24 (.slice (some ⟨g, 0, none⟩) ts.length c) ts.length (rowCells w g ts.length) w := Src.ofSlice w hT ⟨g, 0, none⟩ ts.length c _ (by rw [hz1, rowCells_len]) hnews hone
  have hcap : Builtin.nextslicecap (0 + ts.length) 0 * i0.bytes ≤ 281474976710656 := by
    rw [hz2, Nat.zero_add]
    unfold Builtin.nextslicecap
    simp
    split <;> omega
  have hold : (Builtin.firstCells i0.size 0 (.slice bo 0 0)).run Try.prog w.drew = .ok ([] : List Value).toArray w.drew := by
    cases bo with
    | none => exact run_firstCells_none w.drew i0.size 0 0 0
    | some a => exact run_firstCells_some w.drew i0.size 0 a 0 0 [] (by simp) (fun j u h => by simp at h)
  have hr := run_append_grow_src (P := Try.prog) w 24 24 ty 26 i0 _ hT hif hz0 bo 0 0 [] hold (.slice (some ⟨g, 0, none⟩) ts.length c) ts.length _ hs (by omega) (by omega) hcap
  rw [Nat.zero_add, List.nil_append] at hr
  have hb : Below w.heap.size w (w.drew.alloc (.cells ((rowCells w g ts.length).toArray ++ Builtin.zeroCells (Value.agg #[.int .i64 0, .slice none 0 0, .slice none 0 0]).cells (grownCap w ts.length 0 26 - ts.length)) 26)) := ((Below.refl _ w).drew).alloc (Nat.le_refl _) _
  refine ⟨_, _, hr, hb, grownCap_ge w ts.length 0 26, grownCap_le_maxLen w ts.length 0 26 (by unfold maxLen; omega), fun j t ht => ?_⟩
  obtain ⟨v0, v1, v2, c0', c1', c2', hit⟩ := hk.all ht
  have hgl := World.block_lt_of_cell? w0 _ c0'
  have c0 := (hb0.cell (p := ⟨g, j * 3, none⟩) hgl).trans c0'
  have c1 := (hb0.cell (p := ⟨g, j * 3 + 1, none⟩) hgl).trans c1'
  have c2 := (hb0.cell (p := ⟨g, j * 3 + 2, none⟩) hgl).trans c2'
  have hj := (List.getElem?_eq_some_iff.1 ht).1
  refine ⟨v0, v1, v2, blk_cell (heap_new w.drew _) ?_, blk_cell (heap_new w.drew _) ?_, blk_cell (heap_new w.drew _) ?_, hit⟩
  all_goals rw [Array.getElem?_append_left (by rw [List.size_toArray, rowCells_len]; omega), List.getElem?_toArray]
  · exact rowCells_get (by omega) c0
  · exact rowCells_get (by omega) c1
  · exact rowCells_get (by omega) c2

set_option maxHeartbeats 1000000 in
set_option maxRecDepth 100000 in
theorem refList_any {ts : List Tree} {g c : Nat} (w : World) (hK : IsKids w ts (some ⟨g, 0, none⟩) 0) (h0 : 0 < ts.length) (hlen : ts.length ≤ 3518437208884) :
    Calls Try.prog 43 #[.slice (some ⟨g, 0, none⟩) ts.length c] w fun e w' => (∃ v, e = .returned v ∧ IsItem w' (.node 1 [] ts) v) ∧ Below w.heap.size w w' := by
  obtain ⟨W0, hW0⟩ : ∃ W0, W0 = (w.alloc (.cells #[.int .i64 0, .slice none 0 0, .slice none 0 0] 26)).alloc (.cells #[] 26) := ⟨_, rfl⟩
  have hb0 : Below w.heap.size w W0 := by rw [hW0]; exact ((Below.refl _ w).alloc (Nat.le_refl _) _).alloc (by simp) _
  have hx0 : W0.heap[w.heap.size]? = some (.cells #[.int .i64 0, .slice none 0 0, .slice none 0 0] 26 (0, 0)) := by rw [hW0]; exact (heap_old _ _ (by simp)).trans (heap_new _ _)
  obtain ⟨cap, w', hrun, hb, hle, hmx, hrow⟩ := append_row0 (c := c) (ty := 24) (some ⟨w.heap.size + 1, 0, none⟩) hK hb0 h0 hlen
  have hx1 := (hb.block _ (lt_of_block hx0)).trans hx0
  obtain ⟨z0, z1, z2⟩ := cells3 hx1
  have zf : ∀ o, w'.frozen? ⟨w.heap.size, o, none⟩ = false := fun o => blk_free hx1
  have HB := hideP (hb0.trans (hb.mono hb0.size))
  have hlt := lt_of_block hx0
  have HI : Hid (IsItem (((w'.setCell ⟨w.heap.size, 0, none⟩ (.int .i64 1)).setCell ⟨w.heap.size, 1, none⟩ (.slice none 0 0)).setCell ⟨w.heap.size, 2, none⟩ (.slice (some ⟨W0.heap.size, 0, none⟩) ts.length cap)) (.node 1 [] ts) (.agg #[.int .i64 1, .slice none 0 0, .slice (some ⟨W0.heap.size, 0, none⟩) ts.length cap])) := by
    have hset : ∀ b, b ≠ w.heap.size → (((w'.setCell ⟨w.heap.size, 0, none⟩ (.int .i64 1)).setCell ⟨w.heap.size, 1, none⟩ (.slice none 0 0)).setCell ⟨w.heap.size, 2, none⟩ (.slice (some ⟨W0.heap.size, 0, none⟩) ts.length cap)).heap[b]? = w'.heap[b]? := fun b hb' => (Below.heap_setCell _ _ _ _ hb').trans ((Below.heap_setCell _ _ _ _ hb').trans (Below.heap_setCell _ _ _ _ hb'))
    have hup : ∀ a v, w.cell? a = some v → (((w'.setCell ⟨w.heap.size, 0, none⟩ (.int .i64 1)).setCell ⟨w.heap.size, 1, none⟩ (.slice none 0 0)).setCell ⟨w.heap.size, 2, none⟩ (.slice (some ⟨W0.heap.size, 0, none⟩) ts.length cap)).cell? a = some v := fun a v hv => by
      have hal := World.block_lt_of_cell? w _ hv
      exact (cell_congr (hset _ (by omega))).trans ((HB.out.cell hal).trans hv)
    refine item_of_parts (b := []) (BS.empty _ _ _ (fun j => by simp [lb])) ⟨hle, hmx, Or.inr ⟨_, rfl⟩⟩ (kids_of_row fun j t ht => ?_)
    obtain ⟨v0, v1, v2, e0, e1, e2, hit⟩ := hrow j t ht
    exact ⟨v0, v1, v2, (cell_congr (hset _ (by dsimp only; omega))).trans e0, (cell_congr (hset _ (by dsimp only; omega))).trans e1, (cell_congr (hset _ (by dsimp only; omega))).trans e2, hit.mono hup⟩
  have HR := hideP hrun
  have HW0 := hideP hW0
  clear hb0 hx0 hrun hb hle hmx hrow hK hx1 hlt hW0 h0 hlen
  generalize ts.length = n at *
  go_enter Try.func43, Try.ntmps43
  go_wp2_with (at_builtin; rw [← HW0.out]; refine wpList_append_run rfl _ _ 24 rfl rfl rfl rfl HR.out ?_)
  refine bodyPost_ret (v := .agg #[.int .i64 1, .slice none 0 0, .slice (some ⟨W0.heap.size, 0, none⟩) n cap]) (by simp [results, Try.results43, go_sem, z0, z1, z2, World.cell?_setCell_same]) rfl ⟨⟨_, rfl, HI.out⟩, ?_⟩
  exact ((HB.out.setCell (Nat.le_refl _) _).setCell (Nat.le_refl _) _).setCell (Nat.le_refl _) _

end Go.Proofs.Ytigebmidfddbcaa

namespace Go.Proofs.Ytigebmidfddbcaa
open Go.RowKit Go.Shelf

theorem wp_region_heldS {P : Program} {ops : Array Oper} {Q : Exit → Act → World → Prop} {S : World → Prop} {id : Nat} {a : Act} {w : World} (hm : P.follows .mixedOrders = true) (hS : S w.drew)
    (h : S w.drew → wpAnyH P .any ops Q S ops.size (Array.replicate ops.size false) a w.drew) : (Code.region id ops true).wp P Q a w :=
  wp_region_held hm (h hS)

theorem wpAnyH_takeL {P : Program} {l : List Oper} {Q : Exit → Act → World → Prop} {md : Region.Mode} {S : World → Prop} {i : Nat} {oi : Oper} {v : Value} {fuel : Nat} {listed : Array Bool} {a : Act} {w : World} (hi : l[i]? = some oi)
    (hs : Region.noSelect l.toArray = true) (hf : Region.free md l.toArray listed i = true) (hr : (Region.ready md l.toArray listed).contains i = true)
    (hQ : ∀ c a w, Q (.panic c) (a.put oi.dst v) w → Q (.panic c) a w) (hy : YieldsIf P l.toArray S oi v a) (hS : S w)
    (h : wpAnyH P md l.toArray Q S fuel (listed.setIfInBounds i true) (a.put oi.dst v) w) : wpAnyH P md l.toArray Q S (fuel + 1) listed a w :=
  wpAnyH_take (by simpa using hi) hs hf hr hQ hy hS h

end Go.Proofs.Ytigebmidfddbcaa
