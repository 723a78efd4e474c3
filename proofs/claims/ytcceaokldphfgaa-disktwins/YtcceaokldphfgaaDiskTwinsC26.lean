/- YtcceaokldphfgaaDiskTwinsC26 -/
import Derived.Test.YtcceaokldphfgaaDiskTwinsC25
import Derived.Deep.RegionHeld
import Derived.Test.YtcceaokldphfgaaDiskTwinsC19
namespace Go.Proofs.Ytcceaokldphfgaa
open Go.RowKit Go.Shelf

theorem ptrs_one (fs : List FRep) : ∀ v ∈ fs.map ptrV, v.oneCell' = true := fun v hv => by
  obtain ⟨f, _, rfl⟩ := List.mem_map.1 hv
  rfl

/-- One file more in the row. -/
def withF (fs : List FRep) (i : Nat) (f : FRep) : List FRep := fs.take i ++ f :: fs.drop i

theorem mem_with {fs : List FRep} {i : Nat} {f g : FRep} (h : g ∈ withF fs i f) : g = f ∨ g ∈ fs := by
  unfold withF at h
  rcases List.mem_append.1 h with h | h
  · exact .inr (List.mem_of_mem_take h)
  · rcases List.mem_cons.1 h with h | h
    · exact .inl h
    · exact .inr (List.mem_of_mem_drop h)

theorem with_perm (fs : List FRep) (i : Nat) (f : FRep) : (withF fs i f).Perm (f :: fs) := by
  unfold withF
  refine List.perm_middle.trans ?_
  rw [List.take_append_drop]

theorem nchs_with (fs : List FRep) (i : Nat) (f : FRep) : nchs (withF fs i f) = nchs fs + f.a.chs.length := by
  unfold nchs
  rw [((with_perm fs i f).map _).sum_nat]
  simp; omega

theorem with_sorted {fs : List FRep} {i : Nat} {f : FRep} (hs : fs.Pairwise (fun f g => cmpS f.a.name g.a.name < 0)) (hno : ∀ g ∈ fs, cmpS g.a.name f.a.name ≠ 0) (h1 : ∀ j g, fs[j]? = some g → j < i → cmpS g.a.name f.a.name < 0) (h2 : ∀ j g, fs[j]? = some g → i ≤ j → 0 ≤ cmpS g.a.name f.a.name) :
    (withF fs i f).Pairwise (fun f g => cmpS f.a.name g.a.name < 0) := by
  have hl : ∀ g ∈ fs.take i, cmpS g.a.name f.a.name < 0 := fun g hg => by
    obtain ⟨j, hj⟩ := List.getElem?_of_mem hg
    rw [List.getElem?_take] at hj
    split at hj
    · exact h1 j g hj (by assumption)
    · cases hj
  have hr : ∀ g ∈ fs.drop i, cmpS f.a.name g.a.name < 0 := fun g hg => by
    obtain ⟨j, hj⟩ := List.getElem?_of_mem hg
    rw [List.getElem?_drop] at hj
    have h3 := h2 _ g hj (by omega)
    have h4 := hno g (List.mem_of_getElem? hj)
    exact cmpS_anti (by omega)
  unfold withF
  rw [List.pairwise_append]
  refine ⟨hs.sublist (List.take_sublist _ _), List.pairwise_cons.2 ⟨hr, hs.sublist (List.drop_sublist _ _)⟩, fun a ha b hb => ?_⟩
  rcases List.mem_cons.1 hb with rfl | hb
  · exact hl a ha
  · exact cmpS_trans (hl a ha) (hr b hb)

theorem with_abs {fs : List FRep} {i : Nat} {f : FRep} (h1 : ∀ j g, fs[j]? = some g → j < i → cmpS g.a.name f.a.name < 0) (h2 : ∀ j g, fs[j]? = some g → i ≤ j → 0 ≤ cmpS g.a.name f.a.name) : (withF fs i f).map (·.a) = insA (fs.map (·.a)) f.a := by
  have := filter_take (fun g : AFile => decide (cmpS g.name f.a.name < 0)) (fs.map (·.a)) i (fun j x hx hj => by
    rw [List.getElem?_map, Option.map_eq_some_iff] at hx
    obtain ⟨g, hg, rfl⟩ := hx
    simpa using h1 j g hg hj) (fun j x hx hj => by
    rw [List.getElem?_map, Option.map_eq_some_iff] at hx
    obtain ⟨g, hg, rfl⟩ := hx
    simpa using h2 j g hg hj)
  unfold insA withF
  rw [this.1, this.2]
  simp

set_option maxHeartbeats 1000000 in
set_option maxRecDepth 100000 in
/-- A file comes into the row. -/
theorem insert_any {w : World} {role : Role} {D : Nat} {s : DSt} {f : FRep} (h : DiskOK w role D s) (hf : FileOK w role f) (hnew : ∀ g ∈ s.fs, g.p ≠ f.p) (hno : ∀ g ∈ s.fs, cmpS g.a.name f.a.name ≠ 0) (hfew : s.fs.length < 4096) (hnc : (nchs s.fs : Int) + f.a.chs.length ≤ s.ops) :
    Calls Try.prog 61 #[.pointer (some ⟨D, 0, none⟩), .pointer (some ⟨f.p, 0, none⟩)] w fun r w' => r = .returned (.tuple #[]) ∧ Hid (∃ role' v' fs', DiskOK w' role' D { s with filesV := v', fs := fs' } ∧ RowStp D s.filesV role role' w w' ∧ fs'.map (·.a) = insA (s.fs.map (·.a)) f.a) := by
  have hcn : w.cell? ⟨f.p, 0, none⟩ = some (.string f.a.name) := blk_cell hf.blk rfl
  have hpl := dPlace h f.a.name
  have hcf := h.cells.2.2
  have hff : w.frozen? ⟨D, 8, none⟩ = false := blk_free h.blk
  have hb0 : Below w.heap.size w (w.alloc (.cells #[.pointer (some ⟨f.p, 0, none⟩)] 82)) := (Below.refl _ w).alloc (Nat.le_refl _) _
  have hd1 := h.still hb0
  have hf1 : FileOK (w.alloc (.cells #[.pointer (some ⟨f.p, 0, none⟩)] 82)) role f := hf.kept (fun k hk _ => hb0.block k (by rcases hk with ⟨i, hk⟩ | hk <;> exact h.dom k _ hk)) (fun _ _ e => e)
  have hins : ∀ i, Stands (rowL s.fs) f.a.name i → Calls Try.prog 78 #[s.filesV, .int .i64 i, .slice (some ⟨w.heap.size, 0, none⟩) 1 1] (w.alloc (.cells #[.pointer (some ⟨f.p, 0, none⟩)] 82)) fun r w' => ∃ a c, r = .returned (.slice a (s.fs.length + 1) c) ∧ w'.cell? ⟨D, 8, none⟩ = some s.filesV ∧ w'.frozen? ⟨D, 8, none⟩ = false ∧
      Hid (∃ role' v' fs', DiskOK (w'.setCell ⟨D, 8, none⟩ (.slice a (s.fs.length + 1) c)) role' D { s with filesV := v', fs := fs' } ∧ RowStp D s.filesV role role' w (w'.setCell ⟨D, 8, none⟩ (.slice a (s.fs.length + 1) c)) ∧ fs'.map (·.a) = insA (s.fs.map (·.a)) f.a) := by
    intro i hi
    obtain ⟨q1, q2, q3⟩ := stands_at hi
    refine (Insert_any s.filesV s.fs.length i (s.fs.map ptrV) w.heap.size f.p _ hd1.files (ptrs_one _) q1 (by omega) (World.alloc_heap_new w _) (fun e => by have := (h.files.lt _ e).2; omega)).mono ?_
    rintro r w' ⟨a, c, rfl, ho, hg⟩
    have hm : (s.fs.map ptrV).take i ++ Value.pointer (some ⟨f.p, 0, none⟩) :: (s.fs.map ptrV).drop i = (withF s.fs i f).map ptrV := by simp [withF, ptrV]
    have hwl : (withF s.fs i f).length = s.fs.length + 1 := by simp [withF]; omega
    rw [hm, ← hwl] at ho
    rw [← hwl] at hg
    obtain ⟨g1, g2⟩ := hd1.putRow hg (withF s.fs i f) ho (fun g hg => by
        rcases mem_with hg with rfl | hg
        · exact hf1
        · exact hd1.each g hg) (by
        rw [((with_perm s.fs i f).map (·.p)).nodup_iff, List.map_cons, List.nodup_cons]
        refine ⟨fun hm => ?_, h.nodup⟩
        obtain ⟨g, hg, e⟩ := List.mem_map.1 hm
        exact hnew g hg e) (with_sorted h.sorted hno q2 q3) (by omega) (by rw [nchs_with]; omega)
    have hbD : w'.heap[D]? = _ := (hg.by_.block D (hd1.dom _ _ hd1.rD) (fun e => by have := hd1.rfiles D e.symm; rw [hd1.rD] at this; simp at this)).trans hd1.blk
    rw [hwl] at g1 g2
    refine ⟨a, c, rfl, blk_cell hbD rfl, blk_free hbD, _, _, withF s.fs i f, g1, ?_, with_abs q2 q3⟩
    exact ⟨g2.os, g2.tape, g2.output, Nat.le_trans hb0.size g2.size, fun k hk => g2.ext k (Nat.lt_of_lt_of_le hk hb0.size), fun k hk h1 h2 => (g2.same k (Nat.lt_of_lt_of_le hk hb0.size) h1 h2).trans (hb0.block k hk)⟩
  have HI := hideP hins
  obtain ⟨fv, hfv⟩ : ∃ fv, fv = s.filesV := ⟨_, rfl⟩
  rw [← hfv] at hcf HI ⊢
  clear h hins hd1 hb0 hfew hfv hf hf1 hnew hno hnc
  go_enter Try.func61, Try.ntmps61
  go_wp2_with fail
  refine hpl.mono ?_
  rintro r w1 ⟨⟨i, rfl, hi⟩, rfl⟩
  have HI2 := hideP (HI.out i hi)
  clear hi hpl
  generalize thereAt (rowL s.fs) f.a.name i = bb
  go_wp2_with fail
  refine HI2.out.mono ?_
  rintro r w2 ⟨a, c, rfl, q1, q2, HF⟩
  go_wp2
  go_end0
  exact ⟨rfl, HF⟩

theorem drop_abs {fs : List FRep} (hs : fs.Pairwise (fun f g => cmpS f.a.name g.a.name < 0)) {t : ByteArray} {i : Nat} {f : FRep} (hi : fs[i]? = some f) (ht : f.a.name = t) : fs.take i ++ fs.drop (i + 1) = fs.filter (fun g => cmpS g.a.name t != 0) := by
  subst ht
  have hsp : fs = fs.take i ++ f :: fs.drop (i + 1) := by
    obtain ⟨h1, h2⟩ := List.getElem?_eq_some_iff.1 hi
    rw [← h2, ← List.drop_eq_getElem_cons h1, List.take_append_drop]
  have hs' := hs
  rw [hsp, List.pairwise_append] at hs'
  obtain ⟨_, h2, h3⟩ := hs'
  have h4 := (List.pairwise_cons.1 h2).1
  conv => rhs; rw [hsp]
  rw [List.filter_append, List.filter_cons]
  have e0 : (cmpS f.a.name f.a.name != 0) = false := by rw [cmp_self]; rfl
  rw [e0, if_neg (by simp), List.filter_eq_self.2, List.filter_eq_self.2]
  · intro g hg
    have := h4 g hg
    simp only [bne_iff_ne, ne_eq]
    intro e
    rw [cmpS_zero.1 e, cmp_self] at this
    omega
  · intro g hg
    have := h3 g hg f (by simp)
    simp only [bne_iff_ne, ne_eq]
    omega

theorem nchs_filter (p : FRep → Bool) (fs : List FRep) : nchs (fs.filter p) ≤ nchs fs := by
  induction fs with
  | nil => simp [nchs]
  | cons a l ih =>
    rw [List.filter_cons]
    unfold nchs at ih ⊢
    split <;> simp <;> omega

set_option maxHeartbeats 1000000 in
set_option maxRecDepth 100000 in
/-- A file goes out of the row, if it is there. -/
theorem drop_any {w : World} {role : Role} {D : Nat} {s : DSt} (h : DiskOK w role D s) (t : ByteArray) :
    Calls Try.prog 64 #[.pointer (some ⟨D, 0, none⟩), .string t] w fun r w' => r = .returned (.tuple #[]) ∧ Hid (∃ role' v', DiskOK w' role' D { s with filesV := v', fs := s.fs.filter (fun g => cmpS g.a.name t != 0) } ∧ RowStp D s.filesV role role' w w') := by
  have hpl := dPlace h t
  have hcf := h.cells.2.2
  have hff : w.frozen? ⟨D, 8, none⟩ = false := blk_free h.blk
  have hno : ∀ i, Stands (rowL s.fs) t i → thereAt (rowL s.fs) t i = false → Hid (∃ role' v', DiskOK w role' D { s with filesV := v', fs := s.fs.filter (fun g => cmpS g.a.name t != 0) } ∧ RowStp D s.filesV role role' w w) := by
    intro i hi ht
    refine ⟨role, s.filesV, ?_, RowStp.refl _ _ _ _⟩
    rcases find_stands h.sorted hi with ⟨h1, _⟩ | ⟨_, h2⟩
    · rw [ht] at h1; cases h1
    · have e : s.fs.filter (fun g => cmpS g.a.name t != 0) = s.fs := by
        rw [List.filter_eq_self]
        intro g hg
        unfold findF at h2
        have := List.find?_eq_none.1 h2 g hg
        simpa using this
      rw [e]
      exact h
  have hyes : ∀ i, Stands (rowL s.fs) t i → thereAt (rowL s.fs) t i = true → Calls Try.prog 79 #[s.filesV, .int .i64 i, .int .i64 ((i : Int) + 1)] w fun r w' => ∃ a n c, r = .returned (.slice a n c) ∧ w'.cell? ⟨D, 8, none⟩ = some s.filesV ∧ w'.frozen? ⟨D, 8, none⟩ = false ∧
      Hid (∃ role' v', DiskOK (w'.setCell ⟨D, 8, none⟩ (.slice a n c)) role' D { s with filesV := v', fs := s.fs.filter (fun g => cmpS g.a.name t != 0) } ∧ RowStp D s.filesV role role' w (w'.setCell ⟨D, 8, none⟩ (.slice a n c))) := by
    intro i hi ht
    rcases find_stands h.sorted hi with ⟨_, f, hf, hfn, _⟩ | ⟨h1, _⟩
    · have hlt := (List.getElem?_eq_some_iff.1 hf).1
      have hfi := h.files
      rcases h.files.2 with ⟨_, e⟩ | ⟨g, cap, cur, hv, _⟩
      · omega
      · rw [hv] at hfi ⊢
        refine (Delete_one g s.fs.length cap i (s.fs.map ptrV) w hfi (ptrs_one _) hlt).mono ?_
        rintro r w' ⟨rfl, ho, hg⟩
        have hm : (s.fs.map ptrV).take i ++ (s.fs.map ptrV).drop (i + 1) = (s.fs.filter (fun g => cmpS g.a.name t != 0)).map ptrV := by
          rw [← drop_abs h.sorted hf hfn]; simp
        have hl : (s.fs.filter (fun g => cmpS g.a.name t != 0)).length = s.fs.length - 1 := by
          rw [← drop_abs h.sorted hf hfn]; simp; omega
        rw [hm, ← hl] at ho
        rw [← hv, ← hl] at hg
        obtain ⟨g1, g2⟩ := h.putRow hg (s.fs.filter (fun g => cmpS g.a.name t != 0)) ho (fun f hf => h.each f (List.mem_filter.1 hf).1) (h.nodup.sublist (List.filter_sublist.map _)) (h.sorted.sublist List.filter_sublist) (by have := h.few; omega) (by have := nchs_filter (fun g => cmpS g.a.name t != 0) s.fs; have := h.nch; omega)
        have hbD : w'.heap[D]? = _ := (hg.by_.block D (h.dom _ _ h.rD) (fun e => by have := h.rfiles D e.symm; rw [h.rD] at this; simp at this)).trans h.blk
        rw [hl] at g1 g2
        rw [hv] at hbD
        refine ⟨_, _, _, rfl, blk_cell hbD rfl, blk_free hbD, _, _, g1, by rw [← hv]; exact g2⟩
    · rw [ht] at h1; cases h1
  have HN := hideP hno
  have HY := hideP hyes
  have HL : Hid (∀ i, Stands (rowL s.fs) t i → i ≤ 4096) := fun i hi => by have := (stands_at hi).1; have := h.few; omega
  obtain ⟨fv, hfv⟩ : ∃ fv, fv = s.filesV := ⟨_, rfl⟩
  rw [← hfv] at hcf HN HY ⊢
  clear h hno hyes hfv
  go_enter Try.func64, Try.ntmps64
  go_wp2_with fail
  refine hpl.mono ?_
  rintro r w1 ⟨⟨i, rfl, hi⟩, rfl⟩
  have hil := HL.out i hi
  clear hpl
  cases hb : thereAt (rowL s.fs) t i with
  | false =>
    have HF := HN.out i hi hb
    clear hi hb
    go_wp2
    go_end0
    exact ⟨rfl, HF⟩
  | true =>
    have HY2 := hideP (HY.out i hi hb)
    clear hi hb
    go_wp2_with fail
    refine HY2.out.mono ?_
    rintro r w2 ⟨a, n, c, rfl, q1, q2, HF⟩
    go_wp2
    go_end0
    exact ⟨rfl, HF⟩

end Go.Proofs.Ytcceaokldphfgaa

namespace Go.Proofs.Ytcceaokldphfgaa
open Go.RowKit Go.Shelf

theorem wp_region_heldS {P : Program} {ops : Array Oper} {Q : Exit → Act → World → Prop} {S : World → Prop} {id : Nat} {a : Act} {w : World} (hm : P.follows .mixedOrders = true) (hS : S w.drew)
    (h : S w.drew → wpAnyH P .any ops Q S ops.size (Array.replicate ops.size false) a w.drew) : (Code.region id ops true).wp P Q a w :=
  wp_region_held hm (h hS)

theorem wpAnyH_takeL {P : Program} {l : List Oper} {Q : Exit → Act → World → Prop} {md : Region.Mode} {S : World → Prop} {i : Nat} {oi : Oper} {v : Value} {fuel : Nat} {listed : Array Bool} {a : Act} {w : World} (hi : l[i]? = some oi)
    (hs : Region.noSelect l.toArray = true) (hf : Region.free md l.toArray listed i = true) (hr : (Region.ready md l.toArray listed).contains i = true)
    (hQ : ∀ c a w, Q (.panic c) (a.put oi.dst v) w → Q (.panic c) a w) (hy : YieldsIf P l.toArray S oi v a) (hS : S w)
    (h : wpAnyH P md l.toArray Q S fuel (listed.setIfInBounds i true) (a.put oi.dst v) w) : wpAnyH P md l.toArray Q S (fuel + 1) listed a w :=
  wpAnyH_take (by simpa using hi) hs hf hr hQ hy hS h

theorem put_list (l : List Value) (ds : List Deferred) (d : Nat) (v : Value) : Act.put { tmps := l.toArray, defers := ds } (some d) v = { tmps := (l.set d v).toArray, defers := ds } := by
  simp [Act.put]

end Go.Proofs.Ytcceaokldphfgaa
