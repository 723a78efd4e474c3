/-
  Copies of items: the program's copyItems and List.
-/
import Derived.Test.YtigebmidfddbcaaRlpMeansC20
namespace Go.Proofs.Ytigebmidfddbcaa
open Go.RowKit Go.Shelf

mutual
/-- No text and no list of an item is too great. -/
def Tree.fits : Tree → Prop
  | .node _ b k => b.length ≤ 140737488355328 ∧ k.length ≤ 3518437208884 ∧ Tree.fitsK k

def Tree.fitsK : List Tree → Prop
  | [] => True
  | t :: ts => t.fits ∧ Tree.fitsK ts

end

theorem Tree.fitsK_get : ∀ {ts : List Tree} {j : Nat} {t : Tree}, Tree.fitsK ts → ts[j]? = some t → t.fits
  | [], _, _, _, h => by cases h
  | s :: ts, 0, t, hf, h => by
    unfold Tree.fitsK at hf
    cases h
    exact hf.1
  | s :: ts, j + 1, t, hf, h => by
    unfold Tree.fitsK at hf
    exact Tree.fitsK_get (j := j) hf.2 (by simpa using h)

theorem Tree.fitsK_of : ∀ {ts : List Tree}, (∀ t ∈ ts, t.fits) → Tree.fitsK ts
  | [], _ => by unfold Tree.fitsK; trivial
  | t :: ts, h => by
    unfold Tree.fitsK
    exact ⟨h t (by simp), Tree.fitsK_of fun s hs => h s (by simp [hs])⟩

/-- The cells of a row of items. -/
def rowCells (w : World) (g n : Nat) : List Value := (List.range (n * 3)).map fun i => (w.cell? ⟨g, i, none⟩).getD undef

theorem rowCells_len (w : World) (g n : Nat) : (rowCells w g n).length = n * 3 := by simp [rowCells]

theorem rowCells_get {w : World} {g n i : Nat} {u : Value} (hi : i < n * 3) (hu : w.cell? ⟨g, i, none⟩ = some u) : (rowCells w g n)[i]? = some u := by
  unfold rowCells
  simp [hi, hu]

theorem IsKids.all {w : World} {ts : List Tree} {g : Nat} (h : IsKids w ts (some ⟨g, 0, none⟩) 0) {j : Nat} {t : Tree} (ht : ts[j]? = some t) :
    ∃ v0 v1 v2, w.cell? ⟨g, j * 3, none⟩ = some v0 ∧ w.cell? ⟨g, j * 3 + 1, none⟩ = some v1 ∧ w.cell? ⟨g, j * 3 + 2, none⟩ = some v2 ∧ IsItem w t (.agg #[v0, v1, v2]) := by
  obtain ⟨g', v0, v1, v2, e, c0, c1, c2, hi⟩ := h.get ht
  cases e
  rw [Nat.zero_add] at c0 c1 c2
  exact ⟨v0, v1, v2, c0, c1, c2, hi⟩

theorem IsKids.cell {w : World} {ts : List Tree} {g : Nat} (h : IsKids w ts (some ⟨g, 0, none⟩) 0) {i : Nat} (hi : i < ts.length * 3) : ∃ u, w.cell? ⟨g, i, none⟩ = some u ∧ u.oneCell' = true := by
  have hj : i / 3 < ts.length := by omega
  obtain ⟨v0, v1, v2, c0, c1, c2, hit⟩ := h.all (List.getElem?_eq_getElem hj)
  have h1 := hit.one
  rcases (by omega : i = i / 3 * 3 ∨ i = i / 3 * 3 + 1 ∨ i = i / 3 * 3 + 2) with e | e | e
  · exact ⟨v0, by rw [e]; exact c0, h1 _ (by simp)⟩
  · exact ⟨v1, by rw [e]; exact c1, h1 _ (by simp)⟩
  · exact ⟨v2, by rw [e]; exact c2, h1 _ (by simp)⟩

/-- A row of items is laid out anew. -/
theorem append_row {w : World} {ts : List Tree} {g c ty : Nat} (h : IsKids w ts (some ⟨g, 0, none⟩) 0) (h0 : 0 < ts.length) (hn : ts.length ≤ 3518437208884) :
    ∃ cap cur w', (Builtin.append_ #[24, 24] ty #[.slice none 0 0, .slice (some ⟨g, 0, none⟩) ts.length c]).run Try.prog w = .ok (.slice (some ⟨w.heap.size, 0, none⟩) ts.length cap) w' ∧ Below w.heap.size w w' ∧
      w'.heap[w.heap.size]? = some (.cells cur 26 (0, 0)) ∧ ts.length ≤ cap ∧ cap ≤ maxLen ∧ cur.size = cap * 3 ∧ w'.heap.size = w.heap.size + 1 ∧
      ∀ j t, ts[j]? = some t → ∃ v0 v1 v2, cur[j * 3]? = some v0 ∧ cur[j * 3 + 1]? = some v1 ∧ cur[j * 3 + 2]? = some v2 ∧ IsItem w t (.agg #[v0, v1, v2]) := by
  obtain ⟨i0, hif, hz0, hz1, hz2⟩ := info_parts Try.infoItem
  have hT : Try.prog.underlying 24 = some (.slice 26) := by kernel_rfl
  have hnews : ∀ j u, (rowCells w g ts.length)[j]? = some u → w.cell? ((⟨g, 0, none⟩ : Addr).add j) = some u := by
    intro j u hu
    have hj := (List.getElem?_eq_some_iff.1 hu).1
    rw [rowCells_len] at hj
    obtain ⟨u', hu', _⟩ := h.cell hj
    rw [rowCells_get hj hu'] at hu
    cases hu
    rw [show (⟨g, 0, none⟩ : Addr).add j = ⟨g, j, none⟩ by unfold Addr.add; split <;> simp_all]
    exact hu'
  have hone : ∀ u ∈ rowCells w g ts.length, u.oneCell' = true := by
    intro u hu
    obtain ⟨j, hj, e⟩ := List.mem_iff_getElem.1 hu
    rw [rowCells_len] at hj
    obtain ⟨u', hu', h1⟩ := h.cell hj
    have := rowCells_get hj hu'
    rw [List.getElem?_eq_getElem (by rw [rowCells_len]; exact hj), e] at this
    cases this
    exact h1
  have hs : Src Try.prog i0.size 24 (.slice (some ⟨g, 0, none⟩) ts.length c) ts.length (rowCells w g ts.length) w := Src.ofSlice w hT ⟨g, 0, none⟩ ts.length c _ (by rw [hz1, rowCells_len]) hnews hone
  have hcap : Builtin.nextslicecap (0 + ts.length) 0 * i0.bytes ≤ 281474976710656 := by
    rw [hz2, Nat.zero_add]
    unfold Builtin.nextslicecap
    simp
    split <;> omega
  have hr := run_append_grow_src (P := Try.prog) w 24 24 ty 26 i0 _ hT hif hz0 none 0 0 [] (run_firstCells_none w.drew i0.size 0 0 0) (.slice (some ⟨g, 0, none⟩) ts.length c) ts.length _ hs (by omega) (by omega) hcap
  rw [Nat.zero_add, List.nil_append] at hr
  refine ⟨_, _, _, hr, ((Below.refl _ w).drew).alloc (Nat.le_refl _) _, heap_new w.drew _, grownCap_ge w ts.length 0 26, grownCap_le_maxLen w ts.length 0 26 (by unfold maxLen; omega), ?_, by simp, fun j t ht => ?_⟩
  · have := grownCap_ge w ts.length 0 26
    simp only [Array.size_append, List.size_toArray, size_zeroCells, rowCells_len]
    show ts.length * 3 + (grownCap w ts.length 0 26 - ts.length) * 3 = _
    omega
  · obtain ⟨v0, v1, v2, c0, c1, c2, hit⟩ := h.all ht
    have hj := (List.getElem?_eq_some_iff.1 ht).1
    refine ⟨v0, v1, v2, ?_, ?_, ?_, hit⟩
    all_goals rw [Array.getElem?_append_left (by rw [List.size_toArray, rowCells_len]; omega), List.getElem?_toArray]
    · exact rowCells_get (by omega) c0
    · exact rowCells_get (by omega) c1
    · exact rowCells_get (by omega) c2

end Go.Proofs.Ytigebmidfddbcaa
