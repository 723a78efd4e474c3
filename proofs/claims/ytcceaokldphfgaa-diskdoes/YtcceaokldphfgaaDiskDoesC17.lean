/- YtcceaokldphfgaaDiskDoesC17 -/
import Derived.Lib.SliceRun
import Derived.Shelf.RegionOpenPlain
import Derived.Test.YtcceaokldphfgaaDiskDoesC16
import Derived.Deep.RegionHeld
import Derived.Test.YtcceaokldphfgaaDiskDoesC12
namespace Go.Proofs.Ytcceaokldphfgaa
open Go.RowKit Go.Shelf

/-- An append whose run is known, as one step of a region that draws. -/
theorem step_app {P : Program} {ops : Array Oper} {o : Oper} {a : Act} {w : World} {K : Act → World → Prop} {Q : Exit → Act → World → Prop} {E : Prop} (hg : o.guard = none) (d x : Operand) (t t' : TypeId)
    (hop : o.op = Op.call { callee := Callee.builtin Builtin.append, args := #[d, x], argTypes := #[t, t'] }) (v u : Value) (hd : a.eval d = v) (hx : a.eval x = u) {v' : Value} {w' : World}
    (hr : (Builtin.append_ #[t, t'] o.type #[v, u]).run P w = .ok v' w') (hK : K (a.put o.dst v') w') : if Region.wanted o (yielded ops a.tmps) = true then Oper.wp P o a w K Q else E := by
  have hw : Region.wanted o (yielded ops a.tmps) = true := by simp [Region.wanted, hg]
  rw [if_pos hw]
  unfold Oper.wp execOp
  simp only [hop, resolve, invoke, builtin, Sem.run_bind, Sem.run_pure, Result.andThen_ok, List.map_toArray, List.map_cons, List.map_nil, hd, hx, hr]
  exact hK

set_option maxHeartbeats 1000000 in
set_option maxRecDepth 100000 in
/-- slices.Delete of one file. -/
theorem Delete_one (g n cap i : Nat) (xs : List Value) (w : World) (hown : w.ownsRow 0 82 1 (.slice (some ⟨g, 0, none⟩) n cap) n xs) (h1 : ∀ v ∈ xs, v.oneCell' = true) (hi : i < n) :
    Calls Try.prog 79 #[.slice (some ⟨g, 0, none⟩) n cap, .int .i64 i, .int .i64 ((i : Int) + 1)] w fun r w' => r = .returned (.slice (some ⟨g, 0, none⟩) (n - 1) cap) ∧ w'.ownsRow 0 82 1 (.slice (some ⟨g, 0, none⟩) (n - 1) cap) (n - 1) (xs.take i ++ xs.drop (i + 1)) ∧ Grew w w' (.slice (some ⟨g, 0, none⟩) n cap) (.slice (some ⟨g, 0, none⟩) (n - 1) cap) := by
  obtain ⟨cur, hg, hnc, hcm, hcl, hct⟩ := own_split hown
  have hxl : xs.length = n := by rw [← hct, List.length_take]; omega
  obtain ⟨i0, hi0, hz0, hzs, hzb⟩ := info_parts Try.info82
  have hcell : ∀ j u, xs[j]? = some u → w.drew.cell? ⟨g, j, none⟩ = some u := fun j u hj => by
    refine blk_cell (w := w.drew) hg ?_
    rw [← hct, List.getElem?_take] at hj
    split at hj
    · simpa using hj
    · cases hj
  obtain ⟨A, hA, hsrc⟩ : ∃ A : Addr, (if cap = i + 1 then some (⟨g, 0, none⟩ : Addr) else some ⟨g, i + 1, none⟩) = some A ∧ ∀ j u, (xs.drop (i + 1))[j]? = some u → w.drew.cell? (A.add j) = some u := by
    by_cases h : cap = i + 1
    · refine ⟨_, if_pos h, fun j u hj => ?_⟩
      rw [List.drop_eq_nil_of_le (by omega)] at hj
      simp at hj
    · refine ⟨_, if_neg h, fun j u hj => ?_⟩
      rw [Addr.add_lit]
      rw [List.getElem?_drop] at hj
      exact hcell _ u hj
  have hr := run_append_room (P := Try.prog) (w := w.drew) 49 49 82 i0 Try.underlying49 hi0 g i cap cur.toArray hg A (n - (i + 1)) (cap - (i + 1)) (xs.drop (i + 1)) (by rw [hzs, Nat.mul_one, List.length_drop, hxl]) hsrc (fun u hu => h1 u (List.mem_of_mem_drop hu)) (by omega) (by rw [hzs, List.length_drop, List.size_toArray]; omega)
  rw [hzs] at hr
  have hin : i + (n - (i + 1)) = n - 1 := by omega
  have hdl : (xs.drop (i + 1)).length = n - (i + 1) := by rw [List.length_drop, hxl]
  have htake : cur.take i = xs.take i := by rw [← hct, List.take_take, Nat.min_eq_left (by omega)]
  simp only [Nat.mul_one, hdl, hin, htake] at hr
  obtain ⟨C, hC⟩ : ∃ C, C = xs.take i ++ xs.drop (i + 1) ++ cur.drop (n - 1) := ⟨_, rfl⟩
  rw [← hC] at hr
  have hCl : C.length = cap := by rw [hC]; simp; omega
  obtain ⟨w1, hw1⟩ : ∃ w1, w1 = w.drew.setRow g C.toArray := ⟨_, rfl⟩
  rw [← hw1] at hr
  have hg1 : w1.heap[g]? = some (.cells C.toArray 82 (0, 0)) := by rw [hw1]; exact setRow_heap w.drew g cur.toArray _ 82 _ hg
  have hcr := fun ty => Lib.run_clear_slice (P := Try.prog) w1 49 82 ty (.pointer none) Try.underlying49 (fun w => by kernel_rfl) rfl rfl g (n - 1) 1 (cap - (n - 1)) (by omega)
    (fun j hj => by
      have : C.toArray[n - 1 + j]? = some C[n - 1 + j] := by simp
      rw [blk_cell hg1 this]; rfl) (fun j hj => blk_free hg1)
  have hw2 : w1.setCells g (n - 1) (List.replicate 1 (.pointer none)) = w1.setCell ⟨g, n - 1, none⟩ (.pointer none) := rfl
  rw [hw2] at hcr
  have hg2 : (w1.setCell ⟨g, n - 1, none⟩ (.pointer none)).heap[g]? = some (.cells (C.set (n - 1) (.pointer none)).toArray 82 (0, 0)) := by
    have := blk_set (o := n - 1) hg1 (.pointer none)
    rw [this]
    simp
  have hown2 : (w1.setCell ⟨g, n - 1, none⟩ (.pointer none)).ownsRow 0 82 1 (.slice (some ⟨g, 0, none⟩) (n - 1) cap) (n - 1) (xs.take i ++ xs.drop (i + 1)) := by
    refine own_mk hg2 (Nat.zero_le _) (by omega) hcm (by simpa using hCl) ?_
    rw [List.take_set_of_le (Nat.le_refl _), hC]
    exact List.take_left' (by simp; omega)
  have hgr : Grew w (w1.setCell ⟨g, n - 1, none⟩ (.pointer none)) (.slice (some ⟨g, 0, none⟩) n cap) (.slice (some ⟨g, 0, none⟩) (n - 1) cap) := by
    refine ⟨⟨?_, ?_, ?_, ?_, fun k hk hne => ?_⟩, fun k hk => .inl hk⟩
    · rw [hw1]; rfl
    · rw [hw1]; rfl
    · rw [hw1]; rfl
    · rw [hw1]; simp [World.setCell, World.setRow]
    · have hkg : k ≠ g := fun e => hne (by rw [e]; rfl)
      rw [Below.heap_setCell w1 _ _ k hkg, hw1]
      exact setRow_other w.drew g k _ hkg
  have HQ := hideP (And.intro hown2 hgr)
  have HR := hideP hr
  simp only [maxLen] at hcm
  have hz2 : ((i : Int) == (i : Int) + 1) = false := by simp; omega
  have htn : ((i : Int) + 1).toNat = i + 1 := by omega
  have hq1 : (i : Int) + 1 ≤ (n : Int) := by omega
  have hic : i ≤ cap := by omega
  have hi0p : (0 : Int) ≤ (i : Int) + 1 := by omega
  have mixed : Try.prog.follows .mixedOrders = true := by kernel_rfl
  have hq4 : ¬ (cap = n - 1) := by omega
  have hq5 : n - (n - 1) = 1 := by omega
  clear hown hg hg1 hg2 hown2 hgr hct hcl hr h1 hxl hw1 hcell hsrc hw2 hdl htake hC hCl
  go_enter Try.func79, Try.ntmps79
  go_wp2
  go_region_law_o (refine step_app rfl _ _ 49 49 rfl _ _ (by simp [Act.eval, Act.put]) (by simp [Act.eval, Act.put]) HR.out ?_)
  go_wp2
  go_ret
  exact ⟨rfl, HQ.out⟩

end Go.Proofs.Ytcceaokldphfgaa

namespace Go.Proofs.Ytcceaokldphfgaa
open Go.RowKit Go.Shelf

/-- slices.Insert of one file anywhere. -/
theorem Insert_any (v : Value) (n i : Nat) (xs : List Value) (b p : Nat) (w : World) (hown : w.ownsRow 0 82 1 v n xs) (h1 : ∀ v ∈ xs, v.oneCell' = true) (hi : i ≤ n) (hn : n ≤ 4096) (hb : w.heap[b]? = some (.cells #[.pointer (some ⟨p, 0, none⟩)] 82 (0, 0))) (hne : v.ownBlock ≠ some b) :
    Calls Try.prog 78 #[v, .int .i64 i, .slice (some ⟨b, 0, none⟩) 1 1] w fun r w' => ∃ a c, r = .returned (.slice a (n + 1) c) ∧ w'.ownsRow 0 82 1 (.slice a (n + 1) c) (n + 1) (xs.take i ++ .pointer (some ⟨p, 0, none⟩) :: xs.drop i) ∧ Grew w w' v (.slice a (n + 1) c) := by
  have hxl : xs.length = n := by simpa using hown.1
  rcases Nat.lt_or_ge i n with hlt | hge
  · rcases hown.2 with ⟨_, e⟩ | ⟨g, cap, cur, rfl, _, _, hnc, _⟩
    · omega
    · rcases Nat.lt_or_ge n cap with h | h
      · refine (Insert_room g n cap i xs b p w hown h1 hlt h hb (fun e => hne (by rw [e]; rfl))).mono ?_
        rintro r w' ⟨h1, h2, h3⟩
        exact ⟨_, _, h1, h2, h3⟩
      · have : cap = n := by omega
        subst this
        exact Insert_grow g cap i xs b p w hown h1 hlt hn hb
  · have : i = n := by omega
    subst this
    refine (Insert_end v i xs b p w hown hn (blk_cell hb rfl)).mono ?_
    rintro r w' ⟨a, c, h1, h2, h3⟩
    refine ⟨a, c, h1, ?_, h3⟩
    rw [List.take_of_length_le (by omega), List.drop_eq_nil_of_le (by omega)]
    exact h2

/-- What a change of the files' row leaves alone. -/
structure RowStp (D : Nat) (fv : Value) (role role' : Role) (w w' : World) : Prop where
  os : w'.os = w.os
  tape : w'.tape = w.tape
  output : w'.output = w.output
  size : w.heap.size ≤ w'.heap.size
  ext : ∀ k, k < w.heap.size → role' k = role k
  same : ∀ k, k < w.heap.size → k ≠ D → fv.ownBlock ≠ some k → w'.heap[k]? = w.heap[k]?

theorem RowStp.refl (D : Nat) (fv : Value) (role : Role) (w : World) : RowStp D fv role role w w := ⟨rfl, rfl, rfl, Nat.le_refl _, fun _ _ => rfl, fun _ _ _ _ => rfl⟩

theorem RowStp.stp {D : Nat} {s : DSt} {role role' : Role} {w w' : World} (h : RowStp D s.filesV role role' w w') (hd : DiskOK w role D s) : Stp role role' w w' := by
  refine ⟨h.os, h.tape, h.output, h.size, h.ext, fun k hk hn => h.same k hk (fun e => ?_) (fun e => ?_), fun k hk hn => h.same k hk (fun e => ?_) (fun e => ?_)⟩
  · subst e; have := hd.rD; rw [this] at hn; simp at hn
  · have := hd.rfiles k e; rw [this] at hn; simp at hn
  · subst e; exact hn ⟨_, _, _, hd.blk⟩
  · exact hn (own_isC hd.files e)

theorem RowStp.roles {D : Nat} {s : DSt} {role role' : Role} {w w' : World} (h : RowStp D s.filesV role role' w w') (hd : DiskOK w role D s) (k : Nat) (q : Nat × Nat) (e : role k = some q) : role' k = some q := (h.ext k (hd.dom k q e)).trans e

/-- A file, whether it stands in the row or not, stays. -/
theorem FileOK.row {D : Nat} {s : DSt} {role role' : Role} {w w' : World} {f : FRep} (hf : FileOK w role f) (hd : DiskOK w role D s) (h : RowStp D s.filesV role role' w w') : FileOK w' role' f := by
  refine hf.kept (fun k hk _ => ?_) (h.roles hd)
  have hne : f.p ≠ D := fun e => by
    have := hf.rp
    rw [e, hd.rD] at this
    simp at this
  rcases hk with ⟨i, hk⟩ | hk
  · refine h.same k (hd.dom k _ hk) (fun e => ?_) (fun e => ?_)
    · subst e; rw [hd.rD] at hk; simp only [Option.some.injEq, Prod.mk.injEq] at hk; exact hne hk.2.symm
    · have := hd.rfiles k e; rw [hk] at this; simp only [Option.some.injEq, Prod.mk.injEq] at this; exact hne this.2
  · refine h.same k (hd.dom k _ hk) (fun e => ?_) (fun e => ?_)
    · subst e; rw [hd.rD] at hk; simp at hk
    · have := hd.rfiles k e; rw [hk] at this; simp at this

/-- The files' row is another one. -/
theorem DiskOK.putRow {w w1 : World} {role : Role} {D : Nat} {s : DSt} {v : Value} (h : DiskOK w role D s) (hg : Grew w w1 s.filesV v) (fs' : List FRep) (ho : w1.ownsRow 0 82 1 v fs'.length (fs'.map ptrV)) (hf : ∀ f ∈ fs', FileOK w role f) (hnd : (fs'.map (·.p)).Nodup)
    (hso : fs'.Pairwise (fun f g => cmpS f.a.name g.a.name < 0)) (hfew : fs'.length ≤ 4096) (hnc : (nchs fs' : Int) ≤ s.ops) :
    DiskOK (w1.setCell ⟨D, 8, none⟩ v) (extR role w (w1.setCell ⟨D, 8, none⟩ v) (1, D)) D { s with filesV := v, fs := fs' } ∧ RowStp D s.filesV role (extR role w (w1.setCell ⟨D, 8, none⟩ v) (1, D)) w (w1.setCell ⟨D, 8, none⟩ v) := by
  have hz : (w1.setCell ⟨D, 8, none⟩ v).heap.size = w1.heap.size := by simp [World.setCell]
  have hzz := hg.by_.size
  have hRS : RowStp D s.filesV role (extR role w (w1.setCell ⟨D, 8, none⟩ v) (1, D)) w (w1.setCell ⟨D, 8, none⟩ v) :=
    ⟨hg.by_.os, hg.by_.tape, hg.by_.output, by omega, fun k hk => by unfold extR; rw [if_pos hk], fun k hk h1 h2 => (Below.heap_setCell w1 _ v k h1).trans (hg.by_.block k hk (fun e => h2 e.symm))⟩
  refine ⟨?_, hRS⟩
  have hr := hRS.roles h
  have hDf : s.filesV.ownBlock ≠ some D := fun e => by have := h.rfiles D e; rw [h.rD] at this; simp at this
  have hvD : v.ownBlock ≠ some D := fun e => by
    rcases hg.at_ D e with h1 | h1
    · exact hDf h1
    · have := h.dom _ _ h.rD; omega
  have hb1 : w1.heap[D]? = some (.cells #[.bool true, .bool s.dead, .int .i64 s.crash, s.keepV, s.failV, s.fullV, .int .i64 s.room, .int .i64 s.ops, s.filesV] 51 (0, 0)) :=
    (hg.by_.block D (h.dom _ _ h.rD) (fun e => hDf e.symm)).trans h.blk
  have h6 : ∀ k, role k = some (6, 0) → (w1.setCell ⟨D, 8, none⟩ v).heap[k]? = w.heap[k]? := fun k e => (hRS.stp h).keep k (h.dom k _ e) (.inr e)
  exact {
    rD := hr _ _ h.rD
    blk := blk_set hb1 v
    keep := h.keep.same (by omega) (fun k e _ => h6 k e) (fun k e => hr k _ e)
    fail := h.fail.same (by omega) (fun k e _ => h6 k e) (fun k e => hr k _ e)
    full := h.full.same (by omega) (fun k e _ => h6 k e) (fun k e => hr k _ e)
    files := own_same ho (fun k e _ => Below.heap_setCell w1 _ v k (fun e' => hvD (by rw [e]; exact congrArg some e')))
    rfiles := by
      intro g e
      rcases hg.at_ g e with h1 | h1
      · exact hr _ _ (h.rfiles g h1)
      · exact extR_new h1 (by rw [hz]; exact (ho.lt g e).2)
    each := fun f hf' => (hf f hf').row h hRS
    nodup := hnd
    sorted := hso
    dom := fun k q e => extR_dom (by omega) k q e
    few := hfew
    iC := h.iC
    iR := h.iR
    iO := h.iO
    nch := hnc }

theorem cmp_anti : ∀ (a b : List UInt8), 0 < Lib.compareBytes a b → Lib.compareBytes b a < 0
  | [], [], h => by simp [Lib.compareBytes] at h
  | [], _ :: _, h => by simp [Lib.compareBytes] at h
  | _ :: _, [], _ => by simp [Lib.compareBytes]
  | a :: as', b :: bs, h => by
    have ih := cmp_anti as' bs
    simp only [Lib.compareBytes] at h ⊢
    by_cases h1 : a < b
    · simp [h1] at h
    · by_cases h2 : b < a
      · simp [h2]
      · simp only [h1, h2, if_false] at h ⊢
        exact ih h

theorem cmpS_anti {a b : ByteArray} (h : 0 < cmpS a b) : cmpS b a < 0 := cmp_anti _ _ h

theorem filter_take {α : Type} (p : α → Bool) : ∀ (L : List α) (i : Nat), (∀ j x, L[j]? = some x → j < i → p x = true) → (∀ j x, L[j]? = some x → i ≤ j → p x = false) → L.filter p = L.take i ∧ L.filter (fun x => !p x) = L.drop i
  | [], i, _, _ => by simp
  | a :: L, 0, _, h2 => by
    have h3 : ∀ x ∈ a :: L, p x = false := fun x hx => by
      obtain ⟨j, hj⟩ := List.getElem?_of_mem hx
      exact h2 j x hj (Nat.zero_le _)
    constructor
    · rw [List.take_zero, List.filter_eq_nil_iff]
      intro x hx; rw [h3 x hx]; simp
    · rw [List.drop_zero, List.filter_eq_self]
      intro x hx; rw [h3 x hx]; rfl
  | a :: L, i + 1, h1, h2 => by
    have ih := filter_take p L i (fun j x hj hlt => h1 (j + 1) x hj (by omega)) (fun j x hj hlt => h2 (j + 1) x hj (by omega))
    have ha := h1 0 a rfl (by omega)
    simp [ha, ih.1, ih.2]

theorem stands_at {fs : List FRep} {t : ByteArray} {i : Nat} (h : Stands (rowL fs) t i) : i ≤ fs.length ∧ (∀ j f, fs[j]? = some f → j < i → cmpS f.a.name t < 0) ∧ (∀ j f, fs[j]? = some f → i ≤ j → 0 ≤ cmpS f.a.name t) := by
  refine ⟨by have := h.le; simpa [rowL] using this, fun j f hf hj => ?_, fun j f hf hj => ?_⟩
  · exact h.below j (f.p, f.a.name) (by simp [rowL, hf]) hj
  · exact h.above j (f.p, f.a.name) (by simp [rowL, hf]) hj

end Go.Proofs.Ytcceaokldphfgaa

namespace Go.Proofs.Ytcceaokldphfgaa
open Go.RowKit Go.Shelf

theorem ptrs_one (fs : List FRep) : ∀ v ∈ fs.map ptrV, v.oneCell' = true := fun v hv => by
  obtain ⟨f, _, rfl⟩ := List.mem_map.1 hv
  rfl

/-- One file more in the row. -/
def withF (fs : List FRep) (i : Nat) (f : FRep) : List FRep := fs.take i ++ f :: fs.drop i

theorem mem_with {fs : List FRep} {i : Nat} {f g : FRep} (h : g ∈ withF fs i f) : g = f ∨ g ∈ fs := by
  unfold withF at h
  rcases List.mem_append.1 h with h | h
  · exact .inr (List.mem_of_mem_take h)
  · rcases List.mem_cons.1 h with h | h
    · exact .inl h
    · exact .inr (List.mem_of_mem_drop h)

theorem with_perm (fs : List FRep) (i : Nat) (f : FRep) : (withF fs i f).Perm (f :: fs) := by
  unfold withF
  refine List.perm_middle.trans ?_
  rw [List.take_append_drop]

theorem nchs_with (fs : List FRep) (i : Nat) (f : FRep) : nchs (withF fs i f) = nchs fs + f.a.chs.length := by
  unfold nchs
  rw [((with_perm fs i f).map _).sum_nat]
  simp; omega

theorem with_sorted {fs : List FRep} {i : Nat} {f : FRep} (hs : fs.Pairwise (fun f g => cmpS f.a.name g.a.name < 0)) (hno : ∀ g ∈ fs, cmpS g.a.name f.a.name ≠ 0) (h1 : ∀ j g, fs[j]? = some g → j < i → cmpS g.a.name f.a.name < 0) (h2 : ∀ j g, fs[j]? = some g → i ≤ j → 0 ≤ cmpS g.a.name f.a.name) :
    (withF fs i f).Pairwise (fun f g => cmpS f.a.name g.a.name < 0) := by
  have hl : ∀ g ∈ fs.take i, cmpS g.a.name f.a.name < 0 := fun g hg => by
    obtain ⟨j, hj⟩ := List.getElem?_of_mem hg
    rw [List.getElem?_take] at hj
    split at hj
    · exact h1 j g hj (by assumption)
    · cases hj
  have hr : ∀ g ∈ fs.drop i, cmpS f.a.name g.a.name < 0 := fun g hg => by
    obtain ⟨j, hj⟩ := List.getElem?_of_mem hg
    rw [List.getElem?_drop] at hj
    have h3 := h2 _ g hj (by omega)
    have h4 := hno g (List.mem_of_getElem? hj)
    exact cmpS_anti (by omega)
  unfold withF
  rw [List.pairwise_append]
  refine ⟨hs.sublist (List.take_sublist _ _), List.pairwise_cons.2 ⟨hr, hs.sublist (List.drop_sublist _ _)⟩, fun a ha b hb => ?_⟩
  rcases List.mem_cons.1 hb with rfl | hb
  · exact hl a ha
  · exact cmpS_trans (hl a ha) (hr b hb)

theorem with_abs {fs : List FRep} {i : Nat} {f : FRep} (h1 : ∀ j g, fs[j]? = some g → j < i → cmpS g.a.name f.a.name < 0) (h2 : ∀ j g, fs[j]? = some g → i ≤ j → 0 ≤ cmpS g.a.name f.a.name) : (withF fs i f).map (·.a) = insA (fs.map (·.a)) f.a := by
  have := filter_take (fun g : AFile => decide (cmpS g.name f.a.name < 0)) (fs.map (·.a)) i (fun j x hx hj => by
    rw [List.getElem?_map, Option.map_eq_some_iff] at hx
    obtain ⟨g, hg, rfl⟩ := hx
    simpa using h1 j g hg hj) (fun j x hx hj => by
    rw [List.getElem?_map, Option.map_eq_some_iff] at hx
    obtain ⟨g, hg, rfl⟩ := hx
    simpa using h2 j g hg hj)
  unfold insA withF
  rw [this.1, this.2]
  simp

set_option maxHeartbeats 1000000 in
set_option maxRecDepth 100000 in
/-- A file comes into the row. -/
theorem insert_any {w : World} {role : Role} {D : Nat} {s : DSt} {f : FRep} (h : DiskOK w role D s) (hf : FileOK w role f) (hnew : ∀ g ∈ s.fs, g.p ≠ f.p) (hno : ∀ g ∈ s.fs, cmpS g.a.name f.a.name ≠ 0) (hfew : s.fs.length < 4096) (hnc : (nchs s.fs : Int) + f.a.chs.length ≤ s.ops) :
    Calls Try.prog 61 #[.pointer (some ⟨D, 0, none⟩), .pointer (some ⟨f.p, 0, none⟩)] w fun r w' => r = .returned (.tuple #[]) ∧ Hid (∃ role' v' fs', DiskOK w' role' D { s with filesV := v', fs := fs' } ∧ RowStp D s.filesV role role' w w' ∧ fs'.map (·.a) = insA (s.fs.map (·.a)) f.a) := by
  have hcn : w.cell? ⟨f.p, 0, none⟩ = some (.string f.a.name) := blk_cell hf.blk rfl
  have hpl := dPlace h f.a.name
  have hcf := h.cells.2.2
  have hff : w.frozen? ⟨D, 8, none⟩ = false := blk_free h.blk
  have hb0 : Below w.heap.size w (w.alloc (.cells #[.pointer (some ⟨f.p, 0, none⟩)] 82)) := (Below.refl _ w).alloc (Nat.le_refl _) _
  have hd1 := h.still hb0
  have hf1 : FileOK (w.alloc (.cells #[.pointer (some ⟨f.p, 0, none⟩)] 82)) role f := hf.kept (fun k hk _ => hb0.block k (by rcases hk with ⟨i, hk⟩ | hk <;> exact h.dom k _ hk)) (fun _ _ e => e)
  have hins : ∀ i, Stands (rowL s.fs) f.a.name i → Calls Try.prog 78 #[s.filesV, .int .i64 i, .slice (some ⟨w.heap.size, 0, none⟩) 1 1] (w.alloc (.cells #[.pointer (some ⟨f.p, 0, none⟩)] 82)) fun r w' => ∃ a c, r = .returned (.slice a (s.fs.length + 1) c) ∧ w'.cell? ⟨D, 8, none⟩ = some s.filesV ∧ w'.frozen? ⟨D, 8, none⟩ = false ∧
      Hid (∃ role' v' fs', DiskOK (w'.setCell ⟨D, 8, none⟩ (.slice a (s.fs.length + 1) c)) role' D { s with filesV := v', fs := fs' } ∧ RowStp D s.filesV role role' w (w'.setCell ⟨D, 8, none⟩ (.slice a (s.fs.length + 1) c)) ∧ fs'.map (·.a) = insA (s.fs.map (·.a)) f.a) := by
    intro i hi
    obtain ⟨q1, q2, q3⟩ := stands_at hi
    refine (Insert_any s.filesV s.fs.length i (s.fs.map ptrV) w.heap.size f.p _ hd1.files (ptrs_one _) q1 (by omega) (World.alloc_heap_new w _) (fun e => by have := (h.files.lt _ e).2; omega)).mono ?_
    rintro r w' ⟨a, c, rfl, ho, hg⟩
    have hm : (s.fs.map ptrV).take i ++ Value.pointer (some ⟨f.p, 0, none⟩) :: (s.fs.map ptrV).drop i = (withF s.fs i f).map ptrV := by simp [withF, ptrV]
    have hwl : (withF s.fs i f).length = s.fs.length + 1 := by simp [withF]; omega
    rw [hm, ← hwl] at ho
    rw [← hwl] at hg
    obtain ⟨g1, g2⟩ := hd1.putRow hg (withF s.fs i f) ho (fun g hg => by
        rcases mem_with hg with rfl | hg
        · exact hf1
        · exact hd1.each g hg) (by
        rw [((with_perm s.fs i f).map (·.p)).nodup_iff, List.map_cons, List.nodup_cons]
        refine ⟨fun hm => ?_, h.nodup⟩
        obtain ⟨g, hg, e⟩ := List.mem_map.1 hm
        exact hnew g hg e) (with_sorted h.sorted hno q2 q3) (by omega) (by rw [nchs_with]; omega)
    have hbD : w'.heap[D]? = _ := (hg.by_.block D (hd1.dom _ _ hd1.rD) (fun e => by have := hd1.rfiles D e.symm; rw [hd1.rD] at this; simp at this)).trans hd1.blk
    rw [hwl] at g1 g2
    refine ⟨a, c, rfl, blk_cell hbD rfl, blk_free hbD, _, _, withF s.fs i f, g1, ?_, with_abs q2 q3⟩
    exact ⟨g2.os, g2.tape, g2.output, Nat.le_trans hb0.size g2.size, fun k hk => g2.ext k (Nat.lt_of_lt_of_le hk hb0.size), fun k hk h1 h2 => (g2.same k (Nat.lt_of_lt_of_le hk hb0.size) h1 h2).trans (hb0.block k hk)⟩
  have HI := hideP hins
  obtain ⟨fv, hfv⟩ : ∃ fv, fv = s.filesV := ⟨_, rfl⟩
  rw [← hfv] at hcf HI ⊢
  clear h hins hd1 hb0 hfew hfv hf hf1 hnew hno hnc
  go_enter Try.func61, Try.ntmps61
  go_wp2_with fail
  refine hpl.mono ?_
  rintro r w1 ⟨⟨i, rfl, hi⟩, rfl⟩
  have HI2 := hideP (HI.out i hi)
  clear hi hpl
  generalize thereAt (rowL s.fs) f.a.name i = bb
  go_wp2_with fail
  refine HI2.out.mono ?_
  rintro r w2 ⟨a, c, rfl, q1, q2, HF⟩
  go_wp2
  go_end0
  exact ⟨rfl, HF⟩

theorem drop_abs {fs : List FRep} (hs : fs.Pairwise (fun f g => cmpS f.a.name g.a.name < 0)) {t : ByteArray} {i : Nat} {f : FRep} (hi : fs[i]? = some f) (ht : f.a.name = t) : fs.take i ++ fs.drop (i + 1) = fs.filter (fun g => cmpS g.a.name t != 0) := by
  subst ht
  have hsp : fs = fs.take i ++ f :: fs.drop (i + 1) := by
    obtain ⟨h1, h2⟩ := List.getElem?_eq_some_iff.1 hi
    rw [← h2, ← List.drop_eq_getElem_cons h1, List.take_append_drop]
  have hs' := hs
  rw [hsp, List.pairwise_append] at hs'
  obtain ⟨_, h2, h3⟩ := hs'
  have h4 := (List.pairwise_cons.1 h2).1
  conv => rhs; rw [hsp]
  rw [List.filter_append, List.filter_cons]
  have e0 : (cmpS f.a.name f.a.name != 0) = false := by rw [cmp_self]; rfl
  rw [e0, if_neg (by simp), List.filter_eq_self.2, List.filter_eq_self.2]
  · intro g hg
    have := h4 g hg
    simp only [bne_iff_ne, ne_eq]
    intro e
    rw [cmpS_zero.1 e, cmp_self] at this
    omega
  · intro g hg
    have := h3 g hg f (by simp)
    simp only [bne_iff_ne, ne_eq]
    omega

theorem nchs_filter (p : FRep → Bool) (fs : List FRep) : nchs (fs.filter p) ≤ nchs fs := by
  induction fs with
  | nil => simp [nchs]
  | cons a l ih =>
    rw [List.filter_cons]
    unfold nchs at ih ⊢
    split <;> simp <;> omega

set_option maxHeartbeats 1000000 in
set_option maxRecDepth 100000 in
/-- A file goes out of the row, if it is there. -/
theorem drop_any {w : World} {role : Role} {D : Nat} {s : DSt} (h : DiskOK w role D s) (t : ByteArray) :
    Calls Try.prog 64 #[.pointer (some ⟨D, 0, none⟩), .string t] w fun r w' => r = .returned (.tuple #[]) ∧ Hid (∃ role' v', DiskOK w' role' D { s with filesV := v', fs := s.fs.filter (fun g => cmpS g.a.name t != 0) } ∧ RowStp D s.filesV role role' w w') := by
  have hpl := dPlace h t
  have hcf := h.cells.2.2
  have hff : w.frozen? ⟨D, 8, none⟩ = false := blk_free h.blk
  have hno : ∀ i, Stands (rowL s.fs) t i → thereAt (rowL s.fs) t i = false → Hid (∃ role' v', DiskOK w role' D { s with filesV := v', fs := s.fs.filter (fun g => cmpS g.a.name t != 0) } ∧ RowStp D s.filesV role role' w w) := by
    intro i hi ht
    refine ⟨role, s.filesV, ?_, RowStp.refl _ _ _ _⟩
    rcases find_stands h.sorted hi with ⟨h1, _⟩ | ⟨_, h2⟩
    · rw [ht] at h1; cases h1
    · have e : s.fs.filter (fun g => cmpS g.a.name t != 0) = s.fs := by
        rw [List.filter_eq_self]
        intro g hg
        unfold findF at h2
        have := List.find?_eq_none.1 h2 g hg
        simpa using this
      rw [e]
      exact h
  have hyes : ∀ i, Stands (rowL s.fs) t i → thereAt (rowL s.fs) t i = true → Calls Try.prog 79 #[s.filesV, .int .i64 i, .int .i64 ((i : Int) + 1)] w fun r w' => ∃ a n c, r = .returned (.slice a n c) ∧ w'.cell? ⟨D, 8, none⟩ = some s.filesV ∧ w'.frozen? ⟨D, 8, none⟩ = false ∧
      Hid (∃ role' v', DiskOK (w'.setCell ⟨D, 8, none⟩ (.slice a n c)) role' D { s with filesV := v', fs := s.fs.filter (fun g => cmpS g.a.name t != 0) } ∧ RowStp D s.filesV role role' w (w'.setCell ⟨D, 8, none⟩ (.slice a n c))) := by
    intro i hi ht
    rcases find_stands h.sorted hi with ⟨_, f, hf, hfn, _⟩ | ⟨h1, _⟩
    · have hlt := (List.getElem?_eq_some_iff.1 hf).1
      have hfi := h.files
      rcases h.files.2 with ⟨_, e⟩ | ⟨g, cap, cur, hv, _⟩
      · omega
      · rw [hv] at hfi ⊢
        refine (Delete_one g s.fs.length cap i (s.fs.map ptrV) w hfi (ptrs_one _) hlt).mono ?_
        rintro r w' ⟨rfl, ho, hg⟩
        have hm : (s.fs.map ptrV).take i ++ (s.fs.map ptrV).drop (i + 1) = (s.fs.filter (fun g => cmpS g.a.name t != 0)).map ptrV := by
          rw [← drop_abs h.sorted hf hfn]; simp
        have hl : (s.fs.filter (fun g => cmpS g.a.name t != 0)).length = s.fs.length - 1 := by
          rw [← drop_abs h.sorted hf hfn]; simp; omega
        rw [hm, ← hl] at ho
        rw [← hv, ← hl] at hg
        obtain ⟨g1, g2⟩ := h.putRow hg (s.fs.filter (fun g => cmpS g.a.name t != 0)) ho (fun f hf => h.each f (List.mem_filter.1 hf).1) (h.nodup.sublist (List.filter_sublist.map _)) (h.sorted.sublist List.filter_sublist) (by have := h.few; omega) (by have := nchs_filter (fun g => cmpS g.a.name t != 0) s.fs; have := h.nch; omega)
        have hbD : w'.heap[D]? = _ := (hg.by_.block D (h.dom _ _ h.rD) (fun e => by have := h.rfiles D e.symm; rw [h.rD] at this; simp at this)).trans h.blk
        rw [hl] at g1 g2
        rw [hv] at hbD
        refine ⟨_, _, _, rfl, blk_cell hbD rfl, blk_free hbD, _, _, g1, by rw [← hv]; exact g2⟩
    · rw [ht] at h1; cases h1
  have HN := hideP hno
  have HY := hideP hyes
  have HL : Hid (∀ i, Stands (rowL s.fs) t i → i ≤ 4096) := fun i hi => by have := (stands_at hi).1; have := h.few; omega
  obtain ⟨fv, hfv⟩ : ∃ fv, fv = s.filesV := ⟨_, rfl⟩
  rw [← hfv] at hcf HN HY ⊢
  clear h hno hyes hfv
  go_enter Try.func64, Try.ntmps64
  go_wp2_with fail
  refine hpl.mono ?_
  rintro r w1 ⟨⟨i, rfl, hi⟩, rfl⟩
  have hil := HL.out i hi
  clear hpl
  cases hb : thereAt (rowL s.fs) t i with
  | false =>
    have HF := HN.out i hi hb
    clear hi hb
    go_wp2
    go_end0
    exact ⟨rfl, HF⟩
  | true =>
    have HY2 := hideP (HY.out i hi hb)
    clear hi hb
    go_wp2_with fail
    refine HY2.out.mono ?_
    rintro r w2 ⟨a, n, c, rfl, q1, q2, HF⟩
    go_wp2
    go_end0
    exact ⟨rfl, HF⟩

end Go.Proofs.Ytcceaokldphfgaa

namespace Go.Proofs.Ytcceaokldphfgaa
open Go.RowKit Go.Shelf

theorem wp_region_heldS {P : Program} {ops : Array Oper} {Q : Exit → Act → World → Prop} {S : World → Prop} {id : Nat} {a : Act} {w : World} (hm : P.follows .mixedOrders = true) (hS : S w.drew)
    (h : S w.drew → wpAnyH P .any ops Q S ops.size (Array.replicate ops.size false) a w.drew) : (Code.region id ops true).wp P Q a w :=
  wp_region_held hm (h hS)

theorem wpAnyH_takeL {P : Program} {l : List Oper} {Q : Exit → Act → World → Prop} {md : Region.Mode} {S : World → Prop} {i : Nat} {oi : Oper} {v : Value} {fuel : Nat} {listed : Array Bool} {a : Act} {w : World} (hi : l[i]? = some oi)
    (hs : Region.noSelect l.toArray = true) (hf : Region.free md l.toArray listed i = true) (hr : (Region.ready md l.toArray listed).contains i = true)
    (hQ : ∀ c a w, Q (.panic c) (a.put oi.dst v) w → Q (.panic c) a w) (hy : YieldsIf P l.toArray S oi v a) (hS : S w)
    (h : wpAnyH P md l.toArray Q S fuel (listed.setIfInBounds i true) (a.put oi.dst v) w) : wpAnyH P md l.toArray Q S (fuel + 1) listed a w :=
  wpAnyH_take (by simpa using hi) hs hf hr hQ hy hS h

theorem put_list (l : List Value) (ds : List Deferred) (d : Nat) (v : Value) : Act.put { tmps := l.toArray, defers := ds } (some d) v = { tmps := (l.set d v).toArray, defers := ds } := by
  simp [Act.put]

end Go.Proofs.Ytcceaokldphfgaa
