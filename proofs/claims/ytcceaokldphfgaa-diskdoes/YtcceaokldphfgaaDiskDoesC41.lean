/- YtcceaokldphfgaaDiskDoesC41 -/
import Derived.Test.YtcceaokldphfgaaDiskDoesC40
namespace Go.Proofs.Ytcceaokldphfgaa
open Go.RowKit Go.Shelf

theorem filesC_set3 : ∀ {rs : List DRep} {i : Nat} {q : DRep}, i < rs.length → filesC (rs.set i q) = (((filesC rs).set (i * 3) (.string q.a.name)).set (i * 3 + 1) q.sv).set (i * 3 + 2) q.cv
  | [], i, q, h => by simp at h
  | x :: rs, 0, q, _ => by simp [filesC]
  | x :: rs, i + 1, q, h => by
    have ih := filesC_set3 (rs := rs) (i := i) (q := q) (by simpa using h)
    show [Value.string x.a.name, x.sv, x.cv] ++ filesC (rs.set i q) = ((([Value.string x.a.name, x.sv, x.cv] ++ filesC rs).set ((i + 1) * 3) (.string q.a.name)).set ((i + 1) * 3 + 1) q.sv).set ((i + 1) * 3 + 2) q.cv
    rw [ih, List.set_append_right _ _ (by simp; omega), List.set_append_right _ _ (by simp; omega), List.set_append_right _ _ (by simp; omega), show (i + 1) * 3 - [Value.string x.a.name, x.sv, x.cv].length = i * 3 from by simp; omega, show (i + 1) * 3 + 1 - [Value.string x.a.name, x.sv, x.cv].length = i * 3 + 1 from by simp; omega, show (i + 1) * 3 + 2 - [Value.string x.a.name, x.sv, x.cv].length = i * 3 + 2 from by simp; omega]

/-- Two files in a row, the other way round. -/
theorem DocOK.swap {V : World} {role : DRole} {M : Nat} {a : ASt} {A B : List DRep} {q f : DRep} {fv kv lv uv : Value} (h : DocOK V role M a (A ++ q :: f :: B) fv kv lv uv) {g cap : Nat} (hfv : fv = .slice (some ⟨g, 0, none⟩) (A ++ q :: f :: B).length cap) :
    DocOK ((((((V.setCell ⟨g, A.length * 3, none⟩ (.string f.a.name)).setCell ⟨g, A.length * 3 + 1, none⟩ f.sv).setCell ⟨g, A.length * 3 + 2, none⟩ f.cv).setCell ⟨g, (A.length + 1) * 3, none⟩ (.string q.a.name)).setCell ⟨g, (A.length + 1) * 3 + 1, none⟩ q.sv).setCell ⟨g, (A.length + 1) * 3 + 2, none⟩ q.cv) role M { a with fs := (A ++ f :: q :: B).map (·.a) } (A ++ f :: q :: B) fv kv lv uv ∧
    DStp role role V ((((((V.setCell ⟨g, A.length * 3, none⟩ (.string f.a.name)).setCell ⟨g, A.length * 3 + 1, none⟩ f.sv).setCell ⟨g, A.length * 3 + 2, none⟩ f.cv).setCell ⟨g, (A.length + 1) * 3, none⟩ (.string q.a.name)).setCell ⟨g, (A.length + 1) * 3 + 1, none⟩ q.sv).setCell ⟨g, (A.length + 1) * 3 + 2, none⟩ q.cv) := by
  have hg2 : role g = 2 := h.rowR g (by rw [hfv]; rfl)
  obtain ⟨W, hW⟩ : ∃ W, W = ((((((V.setCell ⟨g, A.length * 3, none⟩ (.string f.a.name)).setCell ⟨g, A.length * 3 + 1, none⟩ f.sv).setCell ⟨g, A.length * 3 + 2, none⟩ f.cv).setCell ⟨g, (A.length + 1) * 3, none⟩ (.string q.a.name)).setCell ⟨g, (A.length + 1) * 3 + 1, none⟩ q.sv).setCell ⟨g, (A.length + 1) * 3 + 2, none⟩ q.cv) := ⟨_, rfl⟩
  have hne : ∀ k, k ≠ g → W.heap[k]? = V.heap[k]? := fun k hk => by
    rw [hW]
    exact (Below.heap_setCell _ _ _ k hk).trans ((Below.heap_setCell _ _ _ k hk).trans ((Below.heap_setCell _ _ _ k hk).trans ((Below.heap_setCell _ _ _ k hk).trans ((Below.heap_setCell _ _ _ k hk).trans (Below.heap_setCell _ _ _ k hk)))))
  have hsz : W.heap.size = V.heap.size := by rw [hW]; simp [World.setCell]
  have hneR : ∀ k, role k ≠ 2 → k ≠ g := fun k hk e => hk (by rw [e]; exact hg2)
  have hrow : V.ownsRow 0 90 3 (.slice (some ⟨g, 0, none⟩) (A ++ q :: f :: B).length cap) (A ++ q :: f :: B).length (filesC (A ++ q :: f :: B)) := by rw [← hfv]; exact h.row
  have hst := (((((hrow.stored (A.length * 3) (.string f.a.name)).1.stored (A.length * 3 + 1) f.sv).1.stored (A.length * 3 + 2) f.cv).1.stored ((A.length + 1) * 3) (.string q.a.name)).1.stored ((A.length + 1) * 3 + 1) q.sv).1.stored ((A.length + 1) * 3 + 2) q.cv
  have hset : ((A ++ q :: f :: B).set A.length f).set (A.length + 1) q = A ++ f :: q :: B := by
    rw [List.set_append_right _ _ (Nat.le_refl _), Nat.sub_self, List.set_cons_zero, List.set_append_right _ _ (by omega), show A.length + 1 - A.length = 1 from by omega]
    rfl
  have hfc : filesC (A ++ f :: q :: B) = ((((((filesC (A ++ q :: f :: B)).set (A.length * 3) (.string f.a.name)).set (A.length * 3 + 1) f.sv).set (A.length * 3 + 2) f.cv).set ((A.length + 1) * 3) (.string q.a.name)).set ((A.length + 1) * 3 + 1) q.sv).set ((A.length + 1) * 3 + 2) q.cv := by
    rw [← hset, filesC_set3 (by simp), filesC_set3 (by simp)]
  have hos : W.os = V.os ∧ W.tape = V.tape ∧ W.output = V.output := by rw [hW]; simp only [sc_os, sc_tape, sc_output, and_self]
  rw [← hW]
  rw [← hW] at hst
  have hperm : (A ++ q :: f :: B).Perm (A ++ f :: q :: B) := List.Perm.append_left A (List.Perm.swap f q B)
  have h44 : ∀ k, role k = 4 → k < V.heap.size → W.heap[k]? = V.heap[k]? ∧ role k = 4 := fun k e _ => ⟨hne k (hneR k (by omega)), e⟩
  refine ⟨h.re (fun _ _ => rfl) (fun k e hk => (h44 k e hk).1) ((hne M (hneR M (by rw [h.roleM]; omega))).trans h.str) rfl rfl rfl rfl rfl rfl ?_ h.rowR (fun r hr => ?_) ?_ h.one (fun k e => by rw [hsz]; exact h.dom k e), hos.1, hos.2.1, hos.2.2, by rw [hsz]; exact Nat.le_refl _, fun _ _ => rfl, fun k _ hr => hne k (hneR k (by omega))⟩
  · rw [hfc, hfv, ← hperm.length_eq]
    exact hst.1
  · have hr' := hperm.mem_iff.2 hr
    exact (h.files r hr').kept h44 (fun k e => ⟨hne k (hneR k (by rw [(h.files r hr').rowR k e]; omega)), (h.files r hr').rowR k e⟩)
  · exact h.apart.perm hperm (fun h9 k e1 e2 => h9 k e2 e1)

/-- A file at the end of the row. -/
theorem DocOK.push {V : World} {role : DRole} {M : Nat} {a : ASt} {rs : List DRep} {f : DRep} {fv kv lv uv : Value} (h : DocOK V role M a rs fv kv lv uv) (hF : DFileOK V role f) (hap : ∀ q ∈ rs, ∀ k, f.cv.ownBlock = some k → q.cv.ownBlock ≠ some k) (hn : rs.length ≤ 1000) :
    ∃ g' c' w7, Hid ((Builtin.append_ #[39, 39] 39 #[fv, .slice (some ⟨V.heap.size, 0, none⟩) 1 1]).run Try.prog (V.alloc (.cells #[.string f.a.name, f.sv, f.cv] 90)) = .ok (.slice (some ⟨g', 0, none⟩) (rs.length + 1) c') w7) ∧ (∀ k, role k ≠ 2 → k < V.heap.size → w7.heap[k]? = V.heap[k]?) ∧
      Hid (∃ role', DocOK (w7.setCell ⟨M, 5, none⟩ (.slice (some ⟨g', 0, none⟩) (rs.length + 1) c')) role' M { a with fs := (rs ++ [f]).map (·.a) } (rs ++ [f]) (.slice (some ⟨g', 0, none⟩) (rs.length + 1) c') kv lv uv ∧ DStp role role' V (w7.setCell ⟨M, 5, none⟩ (.slice (some ⟨g', 0, none⟩) (rs.length + 1) c'))) := by
  obtain ⟨i0, hi0, hz0, hz1, hz2⟩ := info_parts Try.info90
  have hnew : (V.alloc (.cells #[.string f.a.name, f.sv, f.cv] 90)).heap[V.heap.size]? = some (.cells #[.string f.a.name, f.sv, f.cv] 90 (0, 0)) := World.alloc_heap_new V _
  obtain ⟨v', w7, hrun, hown, hgrew⟩ := app_wide (P := Try.prog) (V.alloc (.cells #[.string f.a.name, f.sv, f.cv] 90)) 39 39 90 i0 _ 3 64 Try.underlying39 hi0 hz0 hz1 hz2 rfl (by decide) fv rs.length _ (h.row.alloc _) ⟨V.heap.size, 0, none⟩ 1 1 (filesC [f]) rfl
    (fun j u hu => by rw [Addr.add_lit]; exact blk_cell hnew (by simpa [filesC] using hu)) (filesC_one (role := role) (w := V) (fun r hr => by simp at hr; rw [hr]; exact hF)) (by unfold maxLen; omega) (by omega)
  have hg := grew_alloc hgrew
  have hsl : ∃ g' c', v' = .slice (some ⟨g', 0, none⟩) (rs.length + 1) c' := by
    rcases hown.2 with ⟨_, h0⟩ | ⟨g, cap, cur, e, _⟩
    · omega
    · exact ⟨_, _, e⟩
  obtain ⟨g', c', rfl⟩ := hsl
  have hk7 : ∀ k, role k ≠ 2 → k < V.heap.size → w7.heap[k]? = V.heap[k]? := fun k hk hkz => hg.by_.block k hkz (fun e => hk (h.rowR k e.symm))
  refine ⟨g', c', w7, hrun, hk7, ?_⟩
  have hM1 := h.roleM
  have hMz := h.dom M (by omega)
  have hz := hg.by_.size
  have hat : fv.ownBlock = some g' ∨ V.heap.size ≤ g' := hg.at_ g' rfl
  have hne : ∀ k, k ≠ M → (w7.setCell ⟨M, 5, none⟩ (.slice (some ⟨g', 0, none⟩) (rs.length + 1) c')).heap[k]? = w7.heap[k]? := fun k hk => Below.heap_setCell _ _ _ k hk
  have hneR : ∀ k, role k ≠ 1 → k ≠ M := fun k hk e => hk (by rw [e]; exact hM1)
  have hgM : g' ≠ M := by
    rcases hat with e | e
    · have := h.rowR g' e
      exact hneR g' (by omega)
    · omega
  obtain ⟨role', hrole⟩ : ∃ role' : DRole, role' = fun k => if k = g' then 2 else role k := ⟨_, rfl⟩
  have hro : ∀ k, k < V.heap.size → role' k = role k := fun k hk => by
    rw [hrole]
    simp only
    split
    · rename_i e
      subst e
      rcases hat with e | e
      · exact (h.rowR k e).symm
      · omega
    · rfl
  have h44 : ∀ k, role k = 4 → k < V.heap.size → (w7.setCell ⟨M, 5, none⟩ (.slice (some ⟨g', 0, none⟩) (rs.length + 1) c')).heap[k]? = V.heap[k]? ∧ role' k = 4 := fun k e hk => ⟨(hne k (hneR k (by omega))).trans (hk7 k (by omega) hk), (hro k hk).trans e⟩
  have hsz : (w7.setCell ⟨M, 5, none⟩ (.slice (some ⟨g', 0, none⟩) (rs.length + 1) c')).heap.size = w7.heap.size := by simp [World.setCell]
  have hfk : ∀ r, DFileOK V role r → DFileOK (w7.setCell ⟨M, 5, none⟩ (.slice (some ⟨g', 0, none⟩) (rs.length + 1) c')) role' r := fun r hr => hr.kept h44 (fun k e => by
    have h3 := hr.rowR k e
    have hkz := (hr.row.lt k e).2
    exact ⟨(hne k (hneR k (by omega))).trans (hk7 k (by omega) hkz), (hro k hkz).trans h3⟩)
  refine ⟨role', h.re hro (fun k e hk => (h44 k e hk).1) ?_ rfl rfl rfl rfl rfl rfl ?_ ?_ (fun r hr => ?_) ?_ ?_ ?_, hg.by_.os, hg.by_.tape, hg.by_.output, by rw [hsz]; exact hz, hro, fun k hk hr => (hne k (hneR k (by omega))).trans (hk7 k (by omega) hk)⟩
  · exact (blk_set (o := 5) ((hk7 M (by omega) hMz).trans h.str) _).trans (by rfl)
  · rw [List.length_append, filesC_append]
    exact own_keep hown (fun k e => hne k (by cases e; exact hgM))
  · intro k e
    cases e
    rw [hrole]
    exact if_pos rfl
  · simp only [List.mem_append, List.mem_singleton] at hr
    rcases hr with hr | rfl
    · exact hfk r (h.files r hr)
    · exact hfk r hF
  · rw [List.pairwise_append]
    exact ⟨h.apart, List.pairwise_singleton _ _, fun q hq x hx k e1 e2 => by
      simp only [List.mem_singleton] at hx
      subst hx
      exact hap q hq k e2 e1⟩
  · intro k e
    rw [hrole] at e
    simp only at e
    split at e
    · omega
    · exact h.one k e
  · intro k e
    rw [hsz]
    rw [hrole] at e
    simp only at e
    split at e
    · rename_i e2
      rw [e2]
      exact (hown.lt g' rfl).2
    · exact Nat.lt_of_lt_of_le (h.dom k e) hz

theorem ins_split {A B : List AFile} {f : AFile} (hA : ∀ g ∈ A, cmpS g.name f.name < 0) (hB : ∀ g ∈ B, ¬ cmpS g.name f.name < 0) : insA (A ++ B) f = A ++ f :: B := by
  unfold insA
  have e1 : (A ++ B).filter (fun g => decide (cmpS g.name f.name < 0)) = A := by
    rw [List.filter_append, List.filter_eq_self.2 (fun g hg => by simpa using hA g hg), List.filter_eq_nil_iff.2 (fun g hg => by simpa using hB g hg), List.append_nil]
  have e2 : (A ++ B).filter (fun g => !decide (cmpS g.name f.name < 0)) = B := by
    rw [List.filter_append, List.filter_eq_nil_iff.2 (fun g hg => by simpa using hA g hg), List.filter_eq_self.2 (fun g hg => by simpa using hB g hg), List.nil_append]
  rw [e1, e2]

end Go.Proofs.Ytcceaokldphfgaa
