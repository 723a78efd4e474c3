/- YtcceaokldphfgaaDiskTwinsC47 -/
import Derived.Test.YtcceaokldphfgaaDiskTwinsC46
namespace Go.Proofs.Ytcceaokldphfgaa
open Go.RowKit Go.Shelf

attribute [local go_sem] Oper.semAt_some

theorem below_all1 {w W : World} (h : Below w.heap.size w W) (o : Obj) : Below w.heap.size w (W.alloc o) := h.alloc h.size o

theorem below_set1 {w W : World} {b i : Nat} (h : Below w.heap.size w W) (hb : w.heap.size ≤ b) (v : Value) : Below w.heap.size w (W.setCell ⟨b, i, none⟩ v) := h.setCell (p := ⟨b, i, none⟩) hb v

theorem newI_to {w V w1 W : World} {v : Value} {l : List Int} (h : NewI V w1 v l) (hw : w.heap.size ≤ V.heap.size) (hz : w1.heap.size ≤ W.heap.size) (hs : ∀ k, V.heap.size ≤ k → k < w1.heap.size → W.heap[k]? = w1.heap[k]?) : NewI w W v l :=
  ⟨h.1.same hz (fun a n c e _ => hs _ (h.2 a n c e).1 (h.2 a n c e).2), fun a n c e => ⟨Nat.le_trans hw (h.2 a n c e).1, Nat.lt_of_lt_of_le (h.2 a n c e).2 hz⟩⟩

/-- What the plan's copy is good for. -/
def FinC (w : World) (s : DSt) (V w1 : World) (v1 v2 v3 : Value) : Prop := ∀ T B W, Below w.heap.size w W → w1.heap.size ≤ W.heap.size → (∀ k, V.heap.size ≤ k → k < w1.heap.size → W.heap[k]? = w1.heap[k]?) → w1.heap.size ≤ T → W.heap[T]? = some (.cells #[.bool true, .bool s.dead, .int .i64 s.crash, v1, v2, v3, .int .i64 s.room, .int .i64 s.ops, .slice none 0 0] 51 (0, 0)) → w.heap.size ≤ B → W.heap[B]? = some (.cells #[.pointer (some ⟨T, 0, none⟩)] 29 (0, 0)) → CloneD w s T B [] W

/-- The plan's copy, and the clone out of it. -/
theorem clone_plan {w : World} {role : Role} {D : Nat} {s : DSt} (h : DiskOK w role D s) (V : World) (hV : Below w.heap.size w V) :
    Calls Try.prog 31 #[.agg #[.int .i64 s.crash, s.keepV, s.failV, s.fullV, .int .i64 s.room]] V fun r w1 => ∃ v1 v2 v3, r = .returned (.agg #[.int .i64 s.crash, v1, v2, v3, .int .i64 s.room]) ∧ Below w.heap.size w w1 ∧ Hid (Below V.heap.size V w1 ∧ FinC w s V w1 v1 v2 v3) := by
  have hd := h.still hV
  refine (copyPlan_any s.crash s.room s.keepV s.failV s.fullV s.keep s.fail s.full V hd.keep.rd hd.fail.rd hd.full.rd hd.keep.len hd.fail.len hd.full.len (fun a n c e => hd.dom _ _ (hd.keep.ro a n c e)) (fun a n c e => hd.dom _ _ (hd.fail.ro a n c e)) (fun a n c e => hd.dom _ _ (hd.full.ro a n c e))).mono ?_
  rintro r w1 ⟨v1, v2, v3, rfl, n1, n2, n3, hb⟩
  refine ⟨v1, v2, v3, rfl, hV.trans (hb.mono hV.size), hb, fun T B W hW hz hs hT ht hB hbb => ?_⟩
  have hbz := hb.size
  have hvz := hV.size
  exact cloneD_begin h hW (by omega) ht hB hbb (newI_to n1 hV.size hz hs) (newI_to n2 hV.size hz hs) (newI_to n3 hV.size hz hs) (fun a n c e e' => by have := (n1.2 a n c e).2; omega) (fun a n c e e' => by have := (n2.2 a n c e).2; omega) (fun a n c e e' => by have := (n3.2 a n c e).2; omega)

abbrev dskC (s : DSt) (v1 v2 v3 : Value) : Obj := .cells #[.bool true, .bool s.dead, .int .i64 s.crash, v1, v2, v3, .int .i64 s.room, .int .i64 s.ops, .slice none 0 0] 51

/-- The box is made first. -/
theorem fin_A {w w1 : World} {s : DSt} {v1 v2 v3 : Value} (hb1 : Below w.heap.size w w1) (h : Hid (Below (w.drew.alloc (.cells #[.pointer none] 29)).heap.size (w.drew.alloc (.cells #[.pointer none] 29)) w1 ∧ FinC w s (w.drew.alloc (.cells #[.pointer none] 29)) w1 v1 v2 v3)) :
    Hid (CloneD w s w1.heap.size w.heap.size [] ((w1.alloc (dskC s v1 v2 v3)).setCell ⟨w.heap.size, 0, none⟩ (.pointer (some ⟨w1.heap.size, 0, none⟩)))) := by
  obtain ⟨hb, hf⟩ := h.out
  have hvz : (w.drew.alloc (.cells #[.pointer none] 29)).heap.size = w.heap.size + 1 := World.size_alloc w.drew _
  have hz := hb.size
  have h0 : w1.heap[w.heap.size]? = some (.cells #[.pointer none] 29 (0, 0)) := (hb.block w.heap.size (by omega)).trans (World.alloc_heap_new w.drew _)
  have h1 : (w1.alloc (dskC s v1 v2 v3)).heap[w.heap.size]? = some (.cells #[.pointer none] 29 (0, 0)) := (Below.heap_alloc _ _ _ (by omega)).trans h0
  refine hf _ _ _ (below_set1 (below_all1 hb1 _) (Nat.le_refl _) _) (by simp [World.setCell]) (fun k h2 h3 => ?_) (Nat.le_refl _) ?_ (Nat.le_refl _) (blk_set h1 _)
  · exact (Below.heap_setCell _ _ _ k (by show k ≠ w.heap.size; omega)).trans (Below.heap_alloc _ _ _ (by omega))
  · exact (Below.heap_setCell _ _ _ _ (by show w1.heap.size ≠ w.heap.size; omega)).trans (World.alloc_heap_new w1 _)

/-- The box is made second. -/
theorem fin_B {w w1 : World} {s : DSt} {v1 v2 v3 : Value} (hb1 : Below w.heap.size w w1) (h : Hid (Below w.drew.heap.size w.drew w1 ∧ FinC w s w.drew w1 v1 v2 v3)) :
    Hid (CloneD w s (w1.heap.size + 1) w1.heap.size [] ((w1.alloc (.cells #[.pointer (some ⟨w1.heap.size + 1, 0, none⟩)] 29)).alloc (dskC s v1 v2 v3))) := by
  obtain ⟨hb, hf⟩ := h.out
  have hz := hb1.size
  have hs1 : (w1.alloc (.cells #[.pointer (some ⟨w1.heap.size + 1, 0, none⟩)] 29)).heap.size = w1.heap.size + 1 := World.size_alloc w1 _
  refine hf _ _ _ (below_all1 (below_all1 hb1 _) _) (by simp; omega) (fun k h3 h4 => (Below.heap_alloc _ _ _ (by omega)).trans (Below.heap_alloc _ _ _ (by omega))) (by omega) ?_ hz ((Below.heap_alloc _ _ _ (by omega)).trans (World.alloc_heap_new w1 _))
  have h9 := World.alloc_heap_new (w1.alloc (.cells #[.pointer (some ⟨w1.heap.size + 1, 0, none⟩)] 29)) (dskC s v1 v2 v3)
  rw [hs1] at h9
  exact h9

/-- The box is made last. -/
theorem fin_C {w w1 : World} {s : DSt} {v1 v2 v3 : Value} (hb1 : Below w.heap.size w w1) (h : Hid (Below w.drew.heap.size w.drew w1 ∧ FinC w s w.drew w1 v1 v2 v3)) :
    Hid (CloneD w s w1.heap.size (w1.heap.size + 1) [] ((w1.alloc (dskC s v1 v2 v3)).alloc (.cells #[.pointer (some ⟨w1.heap.size, 0, none⟩)] 29))) := by
  obtain ⟨hb, hf⟩ := h.out
  have hz := hb1.size
  have hs1 : (w1.alloc (dskC s v1 v2 v3)).heap.size = w1.heap.size + 1 := World.size_alloc w1 _
  refine hf _ _ _ (below_all1 (below_all1 hb1 _) _) (by simp; omega) (fun k h3 h4 => (Below.heap_alloc _ _ _ (by omega)).trans (Below.heap_alloc _ _ _ (by omega))) (by omega) ((Below.heap_alloc _ _ _ (by omega)).trans (World.alloc_heap_new w1 _)) (by omega) ?_
  rw [← hs1]; exact World.alloc_heap_new _ _

/-- What stands behind the box when it is made first. -/
theorem box_A {w w1 : World} {P : Prop} (h : Hid (Below (w.drew.alloc (.cells #[.pointer none] 29)).heap.size (w.drew.alloc (.cells #[.pointer none] 29)) w1 ∧ P)) (o : Obj) : (w1.alloc o).cell? ⟨w.heap.size, 0, none⟩ = some (.pointer none) ∧ (w1.alloc o).frozen? ⟨w.heap.size, 0, none⟩ = false := by
  have hvz : (w.drew.alloc (.cells #[.pointer none] 29)).heap.size = w.heap.size + 1 := World.size_alloc w.drew _
  have hz := h.out.1.size
  have h0 : w1.heap[w.heap.size]? = some (.cells #[.pointer none] 29 (0, 0)) := (h.out.1.block w.heap.size (by omega)).trans (World.alloc_heap_new w.drew _)
  have h1 : (w1.alloc o).heap[w.heap.size]? = some (.cells #[.pointer none] 29 (0, 0)) := (Below.heap_alloc _ _ _ (by omega)).trans h0
  exact ⟨blk_cell h1 rfl, blk_free h1⟩

theorem chs_le {w : World} {role : Role} {D : Nat} {s : DSt} (h : DiskOK w role D s) {f : FRep} (hf : f ∈ s.fs) : f.a.chs.length ≤ 1099511627776 := by
  obtain ⟨i, hi⟩ := List.getElem?_of_mem hf
  have := nchs_set (f' := { f with a := { f.a with chs := [] } }) hi
  simp only [List.length_nil] at this
  have h4 := h.iO
  have h5 := h.nch
  omega

/-- A round of the range: a file's clone. -/
theorem clone_round {w W : World} {role : Role} {D T B : Nat} {s : DSt} {pre : List (Of s.fs)} {x : Of s.fs} (hI : CloneD w s T B pre W) (h : DiskOK w role D s) (hlt : pre.length < s.fs.length) {fv : Value} (hfv : W.cell? ⟨T, 8, none⟩ = some fv) :
    Hid (Calls Try.prog 52 #[.pointer (some ⟨x.1.p, 0, none⟩)] W.drew fun r w2 => ∃ p, r = .returned (.pointer (some ⟨p, 0, none⟩)) ∧ Hid (w2.cell? ⟨B, 0, none⟩ = some (.pointer (some ⟨T, 0, none⟩)) ∧ w2.cell? ⟨T, 8, none⟩ = some fv ∧ (w2.alloc (.cells #[.pointer (some ⟨p, 0, none⟩)] 82)).cell? ⟨B, 0, none⟩ = some (.pointer (some ⟨T, 0, none⟩)) ∧ (w2.alloc (.cells #[.pointer (some ⟨p, 0, none⟩)] 82)).cell? ⟨T, 8, none⟩ = some fv ∧
      ∃ a3 n3 c3 w3, Hid ((Builtin.append_ #[49, 49] 49 #[fv, .slice (some ⟨w2.heap.size, 0, none⟩) 1 1]).run Try.prog (w2.alloc (.cells #[.pointer (some ⟨p, 0, none⟩)] 82)) = .ok (.slice a3 n3 c3) w3) ∧
        w3.cell? ⟨B, 0, none⟩ = some (.pointer (some ⟨T, 0, none⟩)) ∧ w3.cell? ⟨T, 8, none⟩ = some fv ∧ w3.frozen? ⟨T, 8, none⟩ = false ∧ (w3.setCell ⟨T, 8, none⟩ (.slice a3 n3 c3)).cell? ⟨B, 0, none⟩ = some (.pointer (some ⟨T, 0, none⟩)) ∧
        Hid ((∀ n, KeepsFrom n W (w3.setCell ⟨T, 8, none⟩ (.slice a3 n3 c3))) ∧ KpR s.filesV s.fs W (w3.setCell ⟨T, 8, none⟩ (.slice a3 n3 c3)) ∧ CloneD w s T B (pre ++ [x]) (w3.setCell ⟨T, 8, none⟩ (.slice a3 n3 c3))))) := by
  have hb := hI.below
  have hF : FileOK W.drew role x.1 := (h.each x.1 x.2).kept (fun k hk _ => hb.block k (by rcases hk with ⟨i, hk⟩ | hk <;> exact h.dom k _ hk)) (fun _ _ e => e)
  refine (fclone_any hF (fun k q e => Nat.lt_of_lt_of_le (h.dom k q e) hb.size) (chs_le h x.2)).mono ?_
  rintro r w2 ⟨p, rfl, hc⟩
  obtain ⟨⟨r1, f1, q1, q2, q3, q4⟩, hbb⟩ := hc.out
  have hc' : CloneI W x.1 p x.1.a.chs.length w2 := ⟨⟨r1, f1, q1, ⟨q2.lo, q2.hi⟩, q3, q4⟩, ⟨hbb.os, hbb.tape, hbb.output, hbb.size, hbb.block⟩⟩
  exact ⟨p, rfl, cloneD_step hI h hc' hlt hfv⟩

set_option maxHeartbeats 4000000 in
set_option maxRecDepth 100000 in
theorem clone_in {w : World} {role : Role} {D : Nat} {s : DSt} (h : DiskOK w role D s) (n : Nat) (hn : 8 ≤ n) :
    CallsIn Fence.wide n Try.prog 23 #[.pointer (some ⟨D, 0, none⟩)] w fun r w' => ∃ T, r = .returned (.pointer (some ⟨T, 0, none⟩)) ∧ Hid (∃ role' s', DiskOK w' role' T s' ∧ NewR w w' role' ∧ abs s' = abs s) ∧ Below w.heap.size w w' := by
  have h1 : 1 ≤ n := by omega
  have HCP := hideP (fun V hV => clone_plan h V hV)
  obtain ⟨a1, n1, c1, e1⟩ : ∃ a n c, s.keepV = .slice a n c := by rcases h.keep.rd with ⟨e, _⟩ | ⟨b, o, c, e, _⟩ <;> exact ⟨_, _, _, e⟩
  obtain ⟨a2, n2, c2, e2⟩ : ∃ a n c, s.failV = .slice a n c := by rcases h.fail.rd with ⟨e, _⟩ | ⟨b, o, c, e, _⟩ <;> exact ⟨_, _, _, e⟩
  obtain ⟨a3, n3, c3, e3⟩ : ∃ a n c, s.fullV = .slice a n c := by rcases h.full.rd with ⟨e, _⟩ | ⟨b, o, c, e, _⟩ <;> exact ⟨_, _, _, e⟩
  have hDl := h.dom _ _ h.rD
  have hblk := h.blk
  rw [e1, e2, e3] at hblk HCP
  have HS : Hid (∀ V, Below w.heap.size w V → V.cell? ⟨D, 1, none⟩ = some (.bool s.dead) ∧ V.cell? ⟨D, 2, none⟩ = some (.int .i64 s.crash) ∧ V.cell? ⟨D, 3, none⟩ = some (.slice a1 n1 c1) ∧ V.cell? ⟨D, 4, none⟩ = some (.slice a2 n2 c2) ∧ V.cell? ⟨D, 5, none⟩ = some (.slice a3 n3 c3) ∧ V.cell? ⟨D, 6, none⟩ = some (.int .i64 s.room) ∧ V.cell? ⟨D, 7, none⟩ = some (.int .i64 s.ops)) := fun V hV => by
    have := (hV.block D hDl).trans hblk
    exact ⟨blk_cell this rfl, blk_cell this rfl, blk_cell this rfl, blk_cell this rfl, blk_cell this rfl, blk_cell this rfl, blk_cell this rfl⟩
  have HB0 : Hid (Below w.heap.size w w.drew) := (Below.refl _ w).drew
  have m0 : w.cell? ⟨D, 0, none⟩ = some (.bool true) := blk_cell hblk rfl
  clear hblk e1 e2 e3
  refine callsIn_of_wp_marks Try.func23 rfl trivial ?_ rfl
  simp only [Try.ntmps23, List.size_toArray, List.length_cons, List.length_nil, Nat.reduceAdd, Nat.reduceSub, Array.replicate_succ, Array.replicate_zero, List.push_toArray, List.append_toArray, List.nil_append, List.cons_append]
  gi_wp2
  refine regionIn_wide (S := fun V => V.cell? ⟨D, 1, none⟩ = some (.bool s.dead) ∧ V.cell? ⟨D, 2, none⟩ = some (.int .i64 s.crash) ∧ V.cell? ⟨D, 3, none⟩ = some (.slice a1 n1 c1) ∧ V.cell? ⟨D, 4, none⟩ = some (.slice a2 n2 c2) ∧ V.cell? ⟨D, 5, none⟩ = some (.slice a3 n3 c3) ∧ V.cell? ⟨D, 6, none⟩ = some (.int .i64 s.room) ∧ V.cell? ⟨D, 7, none⟩ = some (.int .i64 s.ops)) (by kernel_rfl) (HS.out _ HB0.out) (fun hS => ?_)
  refine wpAnyH_takeL (i := 0) (v := ?_) rfl (by kernel_rfl) (by kernel_rfl) (by kernel_rfl) (fun _ _ _ h => h) (Or.inl ⟨by kernel_rfl, ?_⟩) hS ?_
  rotate_left
  · intro V hV
    obtain ⟨y1, y2, y3, y4, y5, y6, y7⟩ := hV
    go_simp
    (try with_reducible rfl)
  simp only [put_list, List.set_cons_succ, List.set_cons_zero]
  refine wpAnyH_takeL (i := 1) (v := ?_) rfl (by kernel_rfl) (by kernel_rfl) (by kernel_rfl) (fun _ _ _ h => h) (Or.inl ⟨by kernel_rfl, ?_⟩) hS ?_
  rotate_left
  · intro V hV
    obtain ⟨y1, y2, y3, y4, y5, y6, y7⟩ := hV
    go_simp
    (try with_reducible rfl)
  simp only [put_list, List.set_cons_succ, List.set_cons_zero]
  refine wpAnyH_takeL (i := 2) (v := ?_) rfl (by kernel_rfl) (by kernel_rfl) (by kernel_rfl) (fun _ _ _ h => h) (Or.inl ⟨by kernel_rfl, ?_⟩) hS ?_
  rotate_left
  · intro V hV
    obtain ⟨y1, y2, y3, y4, y5, y6, y7⟩ := hV
    go_simp
    (try with_reducible rfl)
  simp only [put_list, List.set_cons_succ, List.set_cons_zero]
  refine wpAnyH_takeL (i := 3) (v := ?_) rfl (by kernel_rfl) (by kernel_rfl) (by kernel_rfl) (fun _ _ _ h => h) (Or.inl ⟨by kernel_rfl, ?_⟩) hS ?_
  rotate_left
  · intro V hV
    obtain ⟨y1, y2, y3, y4, y5, y6, y7⟩ := hV
    go_simp
    (try with_reducible rfl)
  simp only [put_list, List.set_cons_succ, List.set_cons_zero]
  refine wpAnyH_takeL (i := 4) (v := ?_) rfl (by kernel_rfl) (by kernel_rfl) (by kernel_rfl) (fun _ _ _ h => h) (Or.inl ⟨by kernel_rfl, ?_⟩) hS ?_
  rotate_left
  · intro V hV
    obtain ⟨y1, y2, y3, y4, y5, y6, y7⟩ := hV
    go_simp
    (try with_reducible rfl)
  simp only [put_list, List.set_cons_succ, List.set_cons_zero]
  refine wpAnyH_takeL (i := 5) (v := ?_) rfl (by kernel_rfl) (by kernel_rfl) (by kernel_rfl) (fun _ _ _ h => h) (Or.inl ⟨by kernel_rfl, ?_⟩) hS ?_
  rotate_left
  · intro V hV
    obtain ⟨y1, y2, y3, y4, y5, y6, y7⟩ := hV
    go_simp
    (try with_reducible rfl)
  simp only [put_list, List.set_cons_succ, List.set_cons_zero]
  refine wpAnyH_takeL (i := 6) (v := ?_) rfl (by kernel_rfl) (by kernel_rfl) (by kernel_rfl) (fun _ _ _ h => h) (Or.inl ⟨by kernel_rfl, ?_⟩) hS ?_
  rotate_left
  · intro V hV
    obtain ⟨y1, y2, y3, y4, y5, y6, y7⟩ := hV
    go_simp
    (try with_reducible rfl)
  simp only [put_list, List.set_cons_succ, List.set_cons_zero]
  refine wpAnyH_takeL (i := 7) (v := ?_) rfl (by kernel_rfl) (by kernel_rfl) (by kernel_rfl) (fun _ _ _ h => h) (Or.inl ⟨by kernel_rfl, ?_⟩) hS ?_
  rotate_left
  · intro V hV
    obtain ⟨y1, y2, y3, y4, y5, y6, y7⟩ := hV
    go_simp
    (try with_reducible rfl)
  simp only [put_list, List.set_cons_succ, List.set_cons_zero]
  refine wpAnyH_takeL (i := 9) (v := ?_) rfl (by kernel_rfl) (by kernel_rfl) (by kernel_rfl) (fun _ _ _ h => h) (Or.inl ⟨by kernel_rfl, ?_⟩) hS ?_
  rotate_left
  · intro V hV
    obtain ⟨y1, y2, y3, y4, y5, y6, y7⟩ := hV
    go_simp
    (try with_reducible rfl)
  simp only [put_list, List.set_cons_succ, List.set_cons_zero]
  refine wpAnyH_takeL (i := 10) (v := ?_) rfl (by kernel_rfl) (by kernel_rfl) (by kernel_rfl) (fun _ _ _ h => h) (Or.inl ⟨by kernel_rfl, ?_⟩) hS ?_
  rotate_left
  · intro V hV
    obtain ⟨y1, y2, y3, y4, y5, y6, y7⟩ := hV
    go_simp
    (try with_reducible rfl)
  simp only [put_list, List.set_cons_succ, List.set_cons_zero]
  refine wpAnyH_takeL (i := 11) (v := ?_) rfl (by kernel_rfl) (by kernel_rfl) (by kernel_rfl) (fun _ _ _ h => h) (Or.inl ⟨by kernel_rfl, ?_⟩) hS ?_
  rotate_left
  · intro V hV
    obtain ⟨y1, y2, y3, y4, y5, y6, y7⟩ := hV
    go_simp
    (try with_reducible rfl)
  simp only [put_list, List.set_cons_succ, List.set_cons_zero]
  refine wpAnyH_takeL (i := 12) (v := ?_) rfl (by kernel_rfl) (by kernel_rfl) (by kernel_rfl) (fun _ _ _ h => h) (Or.inl ⟨by kernel_rfl, ?_⟩) hS ?_
  rotate_left
  · intro V hV
    obtain ⟨y1, y2, y3, y4, y5, y6, y7⟩ := hV
    go_simp
    (try with_reducible rfl)
  simp only [put_list, List.set_cons_succ, List.set_cons_zero]
  refine wpAnyH_ready (rs := [8, 15]) (by kernel_rfl) (by simp) (AllReadyH.cons rfl (fun K hK => ?_) (AllReadyH.cons rfl (fun K hK => ?_) (AllReadyH.nil)))
  · go_simp
    refine (HCP.out _ (by first | exact HB0.out | exact below_all1 HB0.out _)).mono ?_
    rintro r w1 ⟨v1, v2, v3, rfl, hb1, HFIN⟩
    have hbz := hb1.size
    (try have hA1 := fun o => (box_A HFIN o).1)
    (try have hA2 := fun o => (box_A HFIN o).2)
    refine hK.out _ _ (by (first | exact hS | exact HS.out _ (below_all1 HB0.out _) | exact HS.out _ hb1 | exact HS.out _ (below_all1 hb1 _) | exact HS.out _ (below_all1 (below_all1 hb1 _) _) | exact HS.out _ (below_set1 (below_all1 hb1 _) (Nat.le_refl _) _) | exact HS.out _ (below_set1 (below_all1 (below_all1 hb1 _) _) (by simp; omega) _))) (fun hS => ?_)
    clear hK K
    refine wpAnyH_takeL (i := 13) (v := ?_) rfl (by kernel_rfl) (by kernel_rfl) (by kernel_rfl) (fun _ _ _ h => h) (Or.inl ⟨by kernel_rfl, ?_⟩) hS ?_
    rotate_left
    · intro V hV
      obtain ⟨y1, y2, y3, y4, y5, y6, y7⟩ := hV
      go_simp
      (try with_reducible rfl)
    simp only [put_list, List.set_cons_succ, List.set_cons_zero]
    refine wpAnyH_ready (rs := [14, 15]) (by kernel_rfl) (by simp) (AllReadyH.cons rfl (fun K hK => ?_) (AllReadyH.cons rfl (fun K hK => ?_) (AllReadyH.nil)))
    · go_simp
      refine hK.out _ _ (by (first | exact hS | exact HS.out _ (below_all1 HB0.out _) | exact HS.out _ hb1 | exact HS.out _ (below_all1 hb1 _) | exact HS.out _ (below_all1 (below_all1 hb1 _) _) | exact HS.out _ (below_set1 (below_all1 hb1 _) (Nat.le_refl _) _) | exact HS.out _ (below_set1 (below_all1 (below_all1 hb1 _) _) (by simp; omega) _))) (fun hS => ?_)
      clear hK K
      refine wpAnyH_ready (rs := [15]) (by kernel_rfl) (by simp) (AllReadyH.cons rfl (fun K hK => ?_) (AllReadyH.nil))
      go_simp
      refine hK.out _ _ (by (first | exact hS | exact HS.out _ (below_all1 HB0.out _) | exact HS.out _ hb1 | exact HS.out _ (below_all1 hb1 _) | exact HS.out _ (below_all1 (below_all1 hb1 _) _) | exact HS.out _ (below_set1 (below_all1 hb1 _) (Nat.le_refl _) _) | exact HS.out _ (below_set1 (below_all1 (below_all1 hb1 _) _) (by simp; omega) _))) (fun hS => ?_)
      clear hK K
      refine wpAnyH_ready (rs := [16]) (by kernel_rfl) (by simp) (AllReadyH.cons rfl (fun K hK => ?_) (AllReadyH.nil))
      go_simp
      refine hK.out _ _ (by (first | exact hS | exact HS.out _ (below_all1 HB0.out _) | exact HS.out _ hb1 | exact HS.out _ (below_all1 hb1 _) | exact HS.out _ (below_all1 (below_all1 hb1 _) _) | exact HS.out _ (below_set1 (below_all1 hb1 _) (Nat.le_refl _) _) | exact HS.out _ (below_set1 (below_all1 (below_all1 hb1 _) _) (by simp; omega) _))) (fun hS => ?_)
      clear hK K
      refine wpAnyH_done (by kernel_rfl) ?_ _
      have HCD := fin_C hb1 HFIN
      obtain ⟨W1, hW1⟩ : ∃ W1, W1 = (w1.alloc (.cells #[.bool true, .bool s.dead, .int .i64 s.crash, v1, v2, v3, .int .i64 s.room, .int .i64 s.ops, .slice none 0 0] 51)).alloc (.cells #[.pointer (some ⟨w1.heap.size, 0, none⟩)] 29) := ⟨_, rfl⟩
      rw [← hW1] at HCD ⊢
      have hbW1 : Below w.heap.size w W1 := HCD.out.below
      obtain ⟨W0, hW0⟩ : ∃ W0, W1.alloc (.cells #[.pointer (some ⟨D, 0, none⟩)] 29) = W0 := ⟨_, rfl⟩
      have hI0 : CloneD w s w1.heap.size (w1.heap.size + 1) [] W0 := by
        rw [← hW0]
        exact cloneD_own (n := w.heap.size) (Nat.le_refl _) [] _ _ none HCD.out (World.grownBy_alloc W1 _ none) (fun r e => by cases e)
      have hB0 : Below w.heap.size w W0 := hI0.below
      have hd0 := h.still hB0
      have hx1 : W0.cell? ⟨W1.heap.size, 0, none⟩ = some (.pointer (some ⟨D, 0, none⟩)) := by rw [← hW0]; exact (cell_new (W := W1) _ 29).1
      have HW0 := hideP hW0
      have HX1 := hideP hx1
      have HBB := hideP hB0
      have HD0 := hideP hd0
      have HI0 := hideP hI0
      clear hW1 hS HFIN hbW1 hW0 hx1 hB0 hd0 hI0 HCD
      (try clear hA1 hA2)
      simp only [OnlyN]
      gi_wp2_with (first | (refine ⟨trivial, ?_⟩; gi_at_call 51; refine (all_in _ _ _).mono ?_; rintro e w' ⟨rfl, rfl⟩))
      rw [HW0.out]
      refine wpIn_rangeFunc_ownG rfl h1 (gf := 73) (lb := #[.pointer (some ⟨W1.heap.size, 0, none⟩)]) rfl trivial (enters_of Try.func73 (by kernel_rfl) rfl)
        (all_stops (n - 1) (by omega) W1.heap.size D s.filesV s.fs W0 h.few HX1.out HD0.out.cells.2.2 HD0.out.rowI) KpR.trans (KpR.putObj (fun g e => (HD0.out.files.lt g e).2)) (Below.refl _ _) (fun _ => rfl)
        (fun pre W => CloneD w s w1.heap.size (w1.heap.size + 1) pre W)
        (fun _ _ _ => False)
        (cloneD_own HBB.out.size)
        (fun _ _ _ _ _ hs _ _ => hs)
        HI0.out
        (fun x => { tmps := #[.pointer (some ⟨D, 0, none⟩), undef, .pointer none, .pointer (some ⟨(w1.heap.size + 1), 0, none⟩), ptrV x.1, .pointer (some ⟨D, 0, none⟩), .bool false, .bool false, .pointer (some ⟨D, 0, none⟩), .pointer (some ⟨D, 0, none⟩), .pointer (some ⟨D, 0, none⟩), .bool true, .bool false, .bool false, .pointer (some ⟨D, 0, none⟩), .pointer (some ⟨D, 0, none⟩), .pointer (some ⟨D, 1, none⟩), .bool s.dead, .pointer (some ⟨D, 0, none⟩), .pointer (some ⟨D, 0, none⟩), .pointer (some ⟨D, 2, none⟩), .agg #[.int .i64 s.crash, .slice a1 n1 c1, .slice a2 n2 c2, .slice a3 n3 c3, .int .i64 s.room], .agg #[.int .i64 s.crash, v1, v2, v3, .int .i64 s.room], .pointer (some ⟨D, 0, none⟩), .pointer (some ⟨D, 0, none⟩), .pointer (some ⟨D, 7, none⟩), .int .i64 s.ops, .agg #[.bool true, .bool s.dead, .int .i64 s.crash, v1, v2, v3, .int .i64 s.room, .int .i64 s.ops, .slice none 0 0], .pointer (some ⟨w1.heap.size, 0, none⟩), .pointer (some ⟨D, 0, none⟩), .func (.func 73) #[] #[.pointer (some ⟨W1.heap.size, 0, none⟩)], ptrV x.1, undef, undef, undef, undef, undef, undef, undef, undef, undef, undef, undef, undef], defers := [] }) ?assign ?body ?done ?stop
      case assign =>
        intro l x W K hK
        gi_wp2
        exact hK
      case body =>
        rintro l pre x W hI hlt
        obtain ⟨role', s', hb, hn', hB', hBb, ha⟩ := hI.ex
        obtain ⟨av, cv, hv, _⟩ := own_slice hb.files
        have hc8 : W.cell? ⟨w1.heap.size, 8, none⟩ = some s'.filesV := blk_cell hb.blk rfl
        rw [hv] at hc8
        have hcB : W.cell? ⟨(w1.heap.size + 1), 0, none⟩ = some (.pointer (some ⟨w1.heap.size, 0, none⟩)) := blk_cell hBb rfl
        have HCL := clone_round (x := x) hI h hlt hc8
        simp only [ptrV]
        clear hb hn' hB' hBb ha hv hI
        gi_wp2
        refine regionIn_held (S := fun V => V.cell? ⟨(w1.heap.size + 1), 0, none⟩ = some (.pointer (some ⟨w1.heap.size, 0, none⟩))) (by kernel_rfl) (fun ⟨_, _, h⟩ => h) (nd_of (by kernel_rfl)) hcB (fun hS => ?_)
        refine wpAnyH_takeL (i := 0) (v := ?_) rfl (by kernel_rfl) (by kernel_rfl) (by kernel_rfl) (fun _ _ _ h => h) (Or.inl ⟨by kernel_rfl, ?_⟩) hS ?_
        rotate_left
        · intro V hV
          (try dsimp only at hV)
          go_simp
          (try with_reducible rfl)
        simp only [put_list, List.set_cons_succ, List.set_cons_zero]
        refine wpAnyH_takeL (i := 1) (v := ?_) rfl (by kernel_rfl) (by kernel_rfl) (by kernel_rfl) (fun _ _ _ h => h) (Or.inl ⟨by kernel_rfl, ?_⟩) hS ?_
        rotate_left
        · intro V hV
          (try dsimp only at hV)
          go_simp
          (try with_reducible rfl)
        simp only [put_list, List.set_cons_succ, List.set_cons_zero]
        refine wpAnyH_takeL (i := 2) (v := ?_) rfl (by kernel_rfl) (by kernel_rfl) (by kernel_rfl) (fun _ _ _ h => h) (Or.inl ⟨by kernel_rfl, ?_⟩) hS ?_
        rotate_left
        · intro V hV
          (try dsimp only at hV)
          go_simp
          (try with_reducible rfl)
        simp only [put_list, List.set_cons_succ, List.set_cons_zero]
        refine wpAnyH_takeL (i := 3) (v := ?_) rfl (by kernel_rfl) (by kernel_rfl) (by kernel_rfl) (fun _ _ _ h => h) (Or.inl ⟨by kernel_rfl, ?_⟩) hS ?_
        rotate_left
        · intro V hV
          (try dsimp only at hV)
          go_simp
          (try with_reducible rfl)
        simp only [put_list, List.set_cons_succ, List.set_cons_zero]
        refine wpAnyH_takeL (i := 5) (v := ?_) rfl (by kernel_rfl) (by kernel_rfl) (by kernel_rfl) (fun _ _ _ h => h) (Or.inl ⟨by kernel_rfl, ?_⟩) hS ?_
        rotate_left
        · intro V hV
          (try dsimp only at hV)
          go_simp
          (try with_reducible rfl)
        simp only [put_list, List.set_cons_succ, List.set_cons_zero]
        refine wpAnyH_ready (rs := [4, 6]) (by kernel_rfl) (by simp) (AllReadyH.cons rfl (fun K hK => ?_) (AllReadyH.cons rfl (fun K hK => ?_) (AllReadyH.nil)))
        · go_simp
          refine hK.out _ _ (by (first | exact hS | exact z1 | exact z3 | exact z5 | exact z8)) (fun hS => ?_)
          clear hK K
          refine wpAnyH_ready (rs := [6]) (by kernel_rfl) (by simp) (AllReadyH.cons rfl (fun K hK => ?_) (AllReadyH.nil))
          go_simp
          refine HCL.out.mono ?_
          rintro r w2 ⟨p, rfl, HX⟩
          obtain ⟨z1, z2, z3, z4, a4, n4, k4, w3, HRN, z5, z6, z7, z8, HFI⟩ := HX.out
          refine hK.out _ _ (by (first | exact hS | exact z1 | exact z3 | exact z5 | exact z8)) (fun hS => ?_)
          clear hK K
          refine wpAnyH_ready (rs := [7]) (by kernel_rfl) (by simp) (AllReadyH.cons rfl (fun K hK => ?_) (AllReadyH.nil))
          go_simp
          refine hK.out _ _ (by (first | exact hS | exact z1 | exact z3 | exact z5 | exact z8)) (fun hS => ?_)
          clear hK K
          refine wpAnyH_ready (rs := [8]) (by kernel_rfl) (by simp) (AllReadyH.cons rfl (fun K hK => ?_) (AllReadyH.nil))
          rw [if_pos (by rfl)]
          refine Lib.wp_append_run _ _ _ 49 49 rfl _ _ rfl rfl _ _ HRN.out ?_
          go_simp
          refine hK.out _ _ (by (first | exact hS | exact z1 | exact z3 | exact z5 | exact z8)) (fun hS => ?_)
          clear hK K
          refine wpAnyH_takeL (i := 9) (v := ?_) rfl (by kernel_rfl) (by kernel_rfl) (by kernel_rfl) (fun _ _ _ h => h) (Or.inl ⟨by kernel_rfl, ?_⟩) hS ?_
          rotate_left
          · intro V hV
            (try dsimp only at hV)
            go_simp
            (try with_reducible rfl)
          simp only [put_list, List.set_cons_succ, List.set_cons_zero]
          refine wpAnyH_takeL (i := 10) (v := ?_) rfl (by kernel_rfl) (by kernel_rfl) (by kernel_rfl) (fun _ _ _ h => h) (Or.inl ⟨by kernel_rfl, ?_⟩) hS ?_
          rotate_left
          · intro V hV
            (try dsimp only at hV)
            go_simp
            (try with_reducible rfl)
          simp only [put_list, List.set_cons_succ, List.set_cons_zero]
          refine wpAnyH_ready (rs := [11]) (by kernel_rfl) (by simp) (AllReadyH.cons rfl (fun K hK => ?_) (AllReadyH.nil))
          go_simp
          refine hK.out _ _ (by (first | exact hS | exact z1 | exact z3 | exact z5 | exact z8)) (fun hS => ?_)
          clear hK K
          refine wpAnyH_done (by kernel_rfl) ?_ _
          clear hS z1 z2 z3 z4 z5 z6 z7 z8
          gi_wp2
          exact ⟨HFI.out.1 _, HFI.out.2.1, HFI.out.2.2⟩
        · go_simp
          refine HCL.out.mono ?_
          rintro r w2 ⟨p, rfl, HX⟩
          obtain ⟨z1, z2, z3, z4, a4, n4, k4, w3, HRN, z5, z6, z7, z8, HFI⟩ := HX.out
          refine hK.out _ _ (by (first | exact hS | exact z1 | exact z3 | exact z5 | exact z8)) (fun hS => ?_)
          clear hK K
          refine wpAnyH_ready (rs := [4, 7]) (by kernel_rfl) (by simp) (AllReadyH.cons rfl (fun K hK => ?_) (AllReadyH.cons rfl (fun K hK => ?_) (AllReadyH.nil)))
          · go_simp
            refine hK.out _ _ (by (first | exact hS | exact z1 | exact z3 | exact z5 | exact z8)) (fun hS => ?_)
            clear hK K
            refine wpAnyH_ready (rs := [7]) (by kernel_rfl) (by simp) (AllReadyH.cons rfl (fun K hK => ?_) (AllReadyH.nil))
            go_simp
            refine hK.out _ _ (by (first | exact hS | exact z1 | exact z3 | exact z5 | exact z8)) (fun hS => ?_)
            clear hK K
            refine wpAnyH_ready (rs := [8]) (by kernel_rfl) (by simp) (AllReadyH.cons rfl (fun K hK => ?_) (AllReadyH.nil))
            rw [if_pos (by rfl)]
            refine Lib.wp_append_run _ _ _ 49 49 rfl _ _ rfl rfl _ _ HRN.out ?_
            go_simp
            refine hK.out _ _ (by (first | exact hS | exact z1 | exact z3 | exact z5 | exact z8)) (fun hS => ?_)
            clear hK K
            refine wpAnyH_takeL (i := 9) (v := ?_) rfl (by kernel_rfl) (by kernel_rfl) (by kernel_rfl) (fun _ _ _ h => h) (Or.inl ⟨by kernel_rfl, ?_⟩) hS ?_
            rotate_left
            · intro V hV
              (try dsimp only at hV)
              go_simp
              (try with_reducible rfl)
            simp only [put_list, List.set_cons_succ, List.set_cons_zero]
            refine wpAnyH_takeL (i := 10) (v := ?_) rfl (by kernel_rfl) (by kernel_rfl) (by kernel_rfl) (fun _ _ _ h => h) (Or.inl ⟨by kernel_rfl, ?_⟩) hS ?_
            rotate_left
            · intro V hV
              (try dsimp only at hV)
              go_simp
              (try with_reducible rfl)
            simp only [put_list, List.set_cons_succ, List.set_cons_zero]
            refine wpAnyH_ready (rs := [11]) (by kernel_rfl) (by simp) (AllReadyH.cons rfl (fun K hK => ?_) (AllReadyH.nil))
            go_simp
            refine hK.out _ _ (by (first | exact hS | exact z1 | exact z3 | exact z5 | exact z8)) (fun hS => ?_)
            clear hK K
            refine wpAnyH_done (by kernel_rfl) ?_ _
            clear hS z1 z2 z3 z4 z5 z6 z7 z8
            gi_wp2
            exact ⟨HFI.out.1 _, HFI.out.2.1, HFI.out.2.2⟩
          · go_simp
            refine hK.out _ _ (by (first | exact hS | exact z1 | exact z3 | exact z5 | exact z8)) (fun hS => ?_)
            clear hK K
            refine wpAnyH_ready (rs := [4]) (by kernel_rfl) (by simp) (AllReadyH.cons rfl (fun K hK => ?_) (AllReadyH.nil))
            go_simp
            refine hK.out _ _ (by (first | exact hS | exact z1 | exact z3 | exact z5 | exact z8)) (fun hS => ?_)
            clear hK K
            refine wpAnyH_ready (rs := [8]) (by kernel_rfl) (by simp) (AllReadyH.cons rfl (fun K hK => ?_) (AllReadyH.nil))
            rw [if_pos (by rfl)]
            refine Lib.wp_append_run _ _ _ 49 49 rfl _ _ rfl rfl _ _ HRN.out ?_
            go_simp
            refine hK.out _ _ (by (first | exact hS | exact z1 | exact z3 | exact z5 | exact z8)) (fun hS => ?_)
            clear hK K
            refine wpAnyH_takeL (i := 9) (v := ?_) rfl (by kernel_rfl) (by kernel_rfl) (by kernel_rfl) (fun _ _ _ h => h) (Or.inl ⟨by kernel_rfl, ?_⟩) hS ?_
            rotate_left
            · intro V hV
              (try dsimp only at hV)
              go_simp
              (try with_reducible rfl)
            simp only [put_list, List.set_cons_succ, List.set_cons_zero]
            refine wpAnyH_takeL (i := 10) (v := ?_) rfl (by kernel_rfl) (by kernel_rfl) (by kernel_rfl) (fun _ _ _ h => h) (Or.inl ⟨by kernel_rfl, ?_⟩) hS ?_
            rotate_left
            · intro V hV
              (try dsimp only at hV)
              go_simp
              (try with_reducible rfl)
            simp only [put_list, List.set_cons_succ, List.set_cons_zero]
            refine wpAnyH_ready (rs := [11]) (by kernel_rfl) (by simp) (AllReadyH.cons rfl (fun K hK => ?_) (AllReadyH.nil))
            go_simp
            refine hK.out _ _ (by (first | exact hS | exact z1 | exact z3 | exact z5 | exact z8)) (fun hS => ?_)
            clear hK K
            refine wpAnyH_done (by kernel_rfl) ?_ _
            clear hS z1 z2 z3 z4 z5 z6 z7 z8
            gi_wp2
            exact ⟨HFI.out.1 _, HFI.out.2.1, HFI.out.2.2⟩
      case done =>
        rintro D' ys W hD rfl hI hK
        have hbc : W.cell? ⟨(w1.heap.size + 1), 0, none⟩ = some (.pointer (some ⟨w1.heap.size, 0, none⟩)) := by
          obtain ⟨role', s', _, _, _, hBb, _⟩ := hI.ex
          exact blk_cell hBb rfl
        have HF : Hid (∃ role' s', DiskOK (W.putObj D' (.deferred none)) role' w1.heap.size s' ∧ NewR w (W.putObj D' (.deferred none)) role' ∧ abs s' = abs s) := by
          obtain ⟨role', s', q1, q2, q3⟩ := hI.disk h
          have hg := grownBy_putObj' W D' (.deferred none)
          refine ⟨role', s', q1.grown hg (fun r e hc => ?_), ⟨q2.lo, fun k q e => Nat.lt_of_lt_of_le (q2.hi k q e) hg.size⟩, q3⟩
          cases e
          obtain ⟨cs, t, fr, hc⟩ := hc
          rw [hc] at hK
          cases hK
        have HB : Hid (Below w.heap.size w (W.putObj D' (.deferred none))) := hI.below.trans (belowK_b (w := w) (Nat.le_refl _) W D' _ _ (by have := HBB.out.size; omega) hK rfl rfl)
        clear hI
        gi_wp2
        refine ⟨by simp, .inl ⟨_, _, rfl, run_takeDeferred hK, ?_⟩⟩
        exact ⟨_, results_tmp rfl _ _ _, _, rfl, HF, HB.out⟩
      case stop =>
        rintro D c pre W _ _ h _
        exact h.elim
    · go_simp
      refine hK.out _ _ (by (first | exact hS | exact HS.out _ (below_all1 HB0.out _) | exact HS.out _ hb1 | exact HS.out _ (below_all1 hb1 _) | exact HS.out _ (below_all1 (below_all1 hb1 _) _) | exact HS.out _ (below_set1 (below_all1 hb1 _) (Nat.le_refl _) _) | exact HS.out _ (below_set1 (below_all1 (below_all1 hb1 _) _) (by simp; omega) _))) (fun hS => ?_)
      clear hK K
      refine wpAnyH_ready (rs := [14]) (by kernel_rfl) (by simp) (AllReadyH.cons rfl (fun K hK => ?_) (AllReadyH.nil))
      go_simp
      refine hK.out _ _ (by (first | exact hS | exact HS.out _ (below_all1 HB0.out _) | exact HS.out _ hb1 | exact HS.out _ (below_all1 hb1 _) | exact HS.out _ (below_all1 (below_all1 hb1 _) _) | exact HS.out _ (below_set1 (below_all1 hb1 _) (Nat.le_refl _) _) | exact HS.out _ (below_set1 (below_all1 (below_all1 hb1 _) _) (by simp; omega) _))) (fun hS => ?_)
      clear hK K
      refine wpAnyH_ready (rs := [16]) (by kernel_rfl) (by simp) (AllReadyH.cons rfl (fun K hK => ?_) (AllReadyH.nil))
      go_simp
      refine hK.out _ _ (by (first | exact hS | exact HS.out _ (below_all1 HB0.out _) | exact HS.out _ hb1 | exact HS.out _ (below_all1 hb1 _) | exact HS.out _ (below_all1 (below_all1 hb1 _) _) | exact HS.out _ (below_set1 (below_all1 hb1 _) (Nat.le_refl _) _) | exact HS.out _ (below_set1 (below_all1 (below_all1 hb1 _) _) (by simp; omega) _))) (fun hS => ?_)
      clear hK K
      refine wpAnyH_done (by kernel_rfl) ?_ _
      have HCD := fin_B hb1 HFIN
      obtain ⟨W1, hW1⟩ : ∃ W1, W1 = (w1.alloc (.cells #[.pointer (some ⟨w1.heap.size + 1, 0, none⟩)] 29)).alloc (.cells #[.bool true, .bool s.dead, .int .i64 s.crash, v1, v2, v3, .int .i64 s.room, .int .i64 s.ops, .slice none 0 0] 51) := ⟨_, rfl⟩
      rw [← hW1] at HCD ⊢
      have hbW1 : Below w.heap.size w W1 := HCD.out.below
      obtain ⟨W0, hW0⟩ : ∃ W0, W1.alloc (.cells #[.pointer (some ⟨D, 0, none⟩)] 29) = W0 := ⟨_, rfl⟩
      have hI0 : CloneD w s (w1.heap.size + 1) w1.heap.size [] W0 := by
        rw [← hW0]
        exact cloneD_own (n := w.heap.size) (Nat.le_refl _) [] _ _ none HCD.out (World.grownBy_alloc W1 _ none) (fun r e => by cases e)
      have hB0 : Below w.heap.size w W0 := hI0.below
      have hd0 := h.still hB0
      have hx1 : W0.cell? ⟨W1.heap.size, 0, none⟩ = some (.pointer (some ⟨D, 0, none⟩)) := by rw [← hW0]; exact (cell_new (W := W1) _ 29).1
      have HW0 := hideP hW0
      have HX1 := hideP hx1
      have HBB := hideP hB0
      have HD0 := hideP hd0
      have HI0 := hideP hI0
      clear hW1 hS HFIN hbW1 hW0 hx1 hB0 hd0 hI0 HCD
      (try clear hA1 hA2)
      simp only [OnlyN]
      gi_wp2_with (first | (refine ⟨trivial, ?_⟩; gi_at_call 51; refine (all_in _ _ _).mono ?_; rintro e w' ⟨rfl, rfl⟩))
      rw [HW0.out]
      refine wpIn_rangeFunc_ownG rfl h1 (gf := 73) (lb := #[.pointer (some ⟨W1.heap.size, 0, none⟩)]) rfl trivial (enters_of Try.func73 (by kernel_rfl) rfl)
        (all_stops (n - 1) (by omega) W1.heap.size D s.filesV s.fs W0 h.few HX1.out HD0.out.cells.2.2 HD0.out.rowI) KpR.trans (KpR.putObj (fun g e => (HD0.out.files.lt g e).2)) (Below.refl _ _) (fun _ => rfl)
        (fun pre W => CloneD w s (w1.heap.size + 1) w1.heap.size pre W)
        (fun _ _ _ => False)
        (cloneD_own HBB.out.size)
        (fun _ _ _ _ _ hs _ _ => hs)
        HI0.out
        (fun x => { tmps := #[.pointer (some ⟨D, 0, none⟩), undef, .pointer none, .pointer (some ⟨w1.heap.size, 0, none⟩), ptrV x.1, .pointer (some ⟨D, 0, none⟩), .bool false, .bool false, .pointer (some ⟨D, 0, none⟩), .pointer (some ⟨D, 0, none⟩), .pointer (some ⟨D, 0, none⟩), .bool true, .bool false, .bool false, .pointer (some ⟨D, 0, none⟩), .pointer (some ⟨D, 0, none⟩), .pointer (some ⟨D, 1, none⟩), .bool s.dead, .pointer (some ⟨D, 0, none⟩), .pointer (some ⟨D, 0, none⟩), .pointer (some ⟨D, 2, none⟩), .agg #[.int .i64 s.crash, .slice a1 n1 c1, .slice a2 n2 c2, .slice a3 n3 c3, .int .i64 s.room], .agg #[.int .i64 s.crash, v1, v2, v3, .int .i64 s.room], .pointer (some ⟨D, 0, none⟩), .pointer (some ⟨D, 0, none⟩), .pointer (some ⟨D, 7, none⟩), .int .i64 s.ops, .agg #[.bool true, .bool s.dead, .int .i64 s.crash, v1, v2, v3, .int .i64 s.room, .int .i64 s.ops, .slice none 0 0], .pointer (some ⟨(w1.heap.size + 1), 0, none⟩), .pointer (some ⟨D, 0, none⟩), .func (.func 73) #[] #[.pointer (some ⟨W1.heap.size, 0, none⟩)], ptrV x.1, undef, undef, undef, undef, undef, undef, undef, undef, undef, undef, undef, undef], defers := [] }) ?assign ?body ?done ?stop
      case assign =>
        intro l x W K hK
        gi_wp2
        exact hK
      case body =>
        rintro l pre x W hI hlt
        obtain ⟨role', s', hb, hn', hB', hBb, ha⟩ := hI.ex
        obtain ⟨av, cv, hv, _⟩ := own_slice hb.files
        have hc8 : W.cell? ⟨(w1.heap.size + 1), 8, none⟩ = some s'.filesV := blk_cell hb.blk rfl
        rw [hv] at hc8
        have hcB : W.cell? ⟨w1.heap.size, 0, none⟩ = some (.pointer (some ⟨(w1.heap.size + 1), 0, none⟩)) := blk_cell hBb rfl
        have HCL := clone_round (x := x) hI h hlt hc8
        simp only [ptrV]
        clear hb hn' hB' hBb ha hv hI
        gi_wp2
        refine regionIn_held (S := fun V => V.cell? ⟨w1.heap.size, 0, none⟩ = some (.pointer (some ⟨(w1.heap.size + 1), 0, none⟩))) (by kernel_rfl) (fun ⟨_, _, h⟩ => h) (nd_of (by kernel_rfl)) hcB (fun hS => ?_)
        refine wpAnyH_takeL (i := 0) (v := ?_) rfl (by kernel_rfl) (by kernel_rfl) (by kernel_rfl) (fun _ _ _ h => h) (Or.inl ⟨by kernel_rfl, ?_⟩) hS ?_
        rotate_left
        · intro V hV
          (try dsimp only at hV)
          go_simp
          (try with_reducible rfl)
        simp only [put_list, List.set_cons_succ, List.set_cons_zero]
        refine wpAnyH_takeL (i := 1) (v := ?_) rfl (by kernel_rfl) (by kernel_rfl) (by kernel_rfl) (fun _ _ _ h => h) (Or.inl ⟨by kernel_rfl, ?_⟩) hS ?_
        rotate_left
        · intro V hV
          (try dsimp only at hV)
          go_simp
          (try with_reducible rfl)
        simp only [put_list, List.set_cons_succ, List.set_cons_zero]
        refine wpAnyH_takeL (i := 2) (v := ?_) rfl (by kernel_rfl) (by kernel_rfl) (by kernel_rfl) (fun _ _ _ h => h) (Or.inl ⟨by kernel_rfl, ?_⟩) hS ?_
        rotate_left
        · intro V hV
          (try dsimp only at hV)
          go_simp
          (try with_reducible rfl)
        simp only [put_list, List.set_cons_succ, List.set_cons_zero]
        refine wpAnyH_takeL (i := 3) (v := ?_) rfl (by kernel_rfl) (by kernel_rfl) (by kernel_rfl) (fun _ _ _ h => h) (Or.inl ⟨by kernel_rfl, ?_⟩) hS ?_
        rotate_left
        · intro V hV
          (try dsimp only at hV)
          go_simp
          (try with_reducible rfl)
        simp only [put_list, List.set_cons_succ, List.set_cons_zero]
        refine wpAnyH_takeL (i := 5) (v := ?_) rfl (by kernel_rfl) (by kernel_rfl) (by kernel_rfl) (fun _ _ _ h => h) (Or.inl ⟨by kernel_rfl, ?_⟩) hS ?_
        rotate_left
        · intro V hV
          (try dsimp only at hV)
          go_simp
          (try with_reducible rfl)
        simp only [put_list, List.set_cons_succ, List.set_cons_zero]
        refine wpAnyH_ready (rs := [4, 6]) (by kernel_rfl) (by simp) (AllReadyH.cons rfl (fun K hK => ?_) (AllReadyH.cons rfl (fun K hK => ?_) (AllReadyH.nil)))
        · go_simp
          refine hK.out _ _ (by (first | exact hS | exact z1 | exact z3 | exact z5 | exact z8)) (fun hS => ?_)
          clear hK K
          refine wpAnyH_ready (rs := [6]) (by kernel_rfl) (by simp) (AllReadyH.cons rfl (fun K hK => ?_) (AllReadyH.nil))
          go_simp
          refine HCL.out.mono ?_
          rintro r w2 ⟨p, rfl, HX⟩
          obtain ⟨z1, z2, z3, z4, a4, n4, k4, w3, HRN, z5, z6, z7, z8, HFI⟩ := HX.out
          refine hK.out _ _ (by (first | exact hS | exact z1 | exact z3 | exact z5 | exact z8)) (fun hS => ?_)
          clear hK K
          refine wpAnyH_ready (rs := [7]) (by kernel_rfl) (by simp) (AllReadyH.cons rfl (fun K hK => ?_) (AllReadyH.nil))
          go_simp
          refine hK.out _ _ (by (first | exact hS | exact z1 | exact z3 | exact z5 | exact z8)) (fun hS => ?_)
          clear hK K
          refine wpAnyH_ready (rs := [8]) (by kernel_rfl) (by simp) (AllReadyH.cons rfl (fun K hK => ?_) (AllReadyH.nil))
          rw [if_pos (by rfl)]
          refine Lib.wp_append_run _ _ _ 49 49 rfl _ _ rfl rfl _ _ HRN.out ?_
          go_simp
          refine hK.out _ _ (by (first | exact hS | exact z1 | exact z3 | exact z5 | exact z8)) (fun hS => ?_)
          clear hK K
          refine wpAnyH_takeL (i := 9) (v := ?_) rfl (by kernel_rfl) (by kernel_rfl) (by kernel_rfl) (fun _ _ _ h => h) (Or.inl ⟨by kernel_rfl, ?_⟩) hS ?_
          rotate_left
          · intro V hV
            (try dsimp only at hV)
            go_simp
            (try with_reducible rfl)
          simp only [put_list, List.set_cons_succ, List.set_cons_zero]
          refine wpAnyH_takeL (i := 10) (v := ?_) rfl (by kernel_rfl) (by kernel_rfl) (by kernel_rfl) (fun _ _ _ h => h) (Or.inl ⟨by kernel_rfl, ?_⟩) hS ?_
          rotate_left
          · intro V hV
            (try dsimp only at hV)
            go_simp
            (try with_reducible rfl)
          simp only [put_list, List.set_cons_succ, List.set_cons_zero]
          refine wpAnyH_ready (rs := [11]) (by kernel_rfl) (by simp) (AllReadyH.cons rfl (fun K hK => ?_) (AllReadyH.nil))
          go_simp
          refine hK.out _ _ (by (first | exact hS | exact z1 | exact z3 | exact z5 | exact z8)) (fun hS => ?_)
          clear hK K
          refine wpAnyH_done (by kernel_rfl) ?_ _
          clear hS z1 z2 z3 z4 z5 z6 z7 z8
          gi_wp2
          exact ⟨HFI.out.1 _, HFI.out.2.1, HFI.out.2.2⟩
        · go_simp
          refine HCL.out.mono ?_
          rintro r w2 ⟨p, rfl, HX⟩
          obtain ⟨z1, z2, z3, z4, a4, n4, k4, w3, HRN, z5, z6, z7, z8, HFI⟩ := HX.out
          refine hK.out _ _ (by (first | exact hS | exact z1 | exact z3 | exact z5 | exact z8)) (fun hS => ?_)
          clear hK K
          refine wpAnyH_ready (rs := [4, 7]) (by kernel_rfl) (by simp) (AllReadyH.cons rfl (fun K hK => ?_) (AllReadyH.cons rfl (fun K hK => ?_) (AllReadyH.nil)))
          · go_simp
            refine hK.out _ _ (by (first | exact hS | exact z1 | exact z3 | exact z5 | exact z8)) (fun hS => ?_)
            clear hK K
            refine wpAnyH_ready (rs := [7]) (by kernel_rfl) (by simp) (AllReadyH.cons rfl (fun K hK => ?_) (AllReadyH.nil))
            go_simp
            refine hK.out _ _ (by (first | exact hS | exact z1 | exact z3 | exact z5 | exact z8)) (fun hS => ?_)
            clear hK K
            refine wpAnyH_ready (rs := [8]) (by kernel_rfl) (by simp) (AllReadyH.cons rfl (fun K hK => ?_) (AllReadyH.nil))
            rw [if_pos (by rfl)]
            refine Lib.wp_append_run _ _ _ 49 49 rfl _ _ rfl rfl _ _ HRN.out ?_
            go_simp
            refine hK.out _ _ (by (first | exact hS | exact z1 | exact z3 | exact z5 | exact z8)) (fun hS => ?_)
            clear hK K
            refine wpAnyH_takeL (i := 9) (v := ?_) rfl (by kernel_rfl) (by kernel_rfl) (by kernel_rfl) (fun _ _ _ h => h) (Or.inl ⟨by kernel_rfl, ?_⟩) hS ?_
            rotate_left
            · intro V hV
              (try dsimp only at hV)
              go_simp
              (try with_reducible rfl)
            simp only [put_list, List.set_cons_succ, List.set_cons_zero]
            refine wpAnyH_takeL (i := 10) (v := ?_) rfl (by kernel_rfl) (by kernel_rfl) (by kernel_rfl) (fun _ _ _ h => h) (Or.inl ⟨by kernel_rfl, ?_⟩) hS ?_
            rotate_left
            · intro V hV
              (try dsimp only at hV)
              go_simp
              (try with_reducible rfl)
            simp only [put_list, List.set_cons_succ, List.set_cons_zero]
            refine wpAnyH_ready (rs := [11]) (by kernel_rfl) (by simp) (AllReadyH.cons rfl (fun K hK => ?_) (AllReadyH.nil))
            go_simp
            refine hK.out _ _ (by (first | exact hS | exact z1 | exact z3 | exact z5 | exact z8)) (fun hS => ?_)
            clear hK K
            refine wpAnyH_done (by kernel_rfl) ?_ _
            clear hS z1 z2 z3 z4 z5 z6 z7 z8
            gi_wp2
            exact ⟨HFI.out.1 _, HFI.out.2.1, HFI.out.2.2⟩
          · go_simp
            refine hK.out _ _ (by (first | exact hS | exact z1 | exact z3 | exact z5 | exact z8)) (fun hS => ?_)
            clear hK K
            refine wpAnyH_ready (rs := [4]) (by kernel_rfl) (by simp) (AllReadyH.cons rfl (fun K hK => ?_) (AllReadyH.nil))
            go_simp
            refine hK.out _ _ (by (first | exact hS | exact z1 | exact z3 | exact z5 | exact z8)) (fun hS => ?_)
            clear hK K
            refine wpAnyH_ready (rs := [8]) (by kernel_rfl) (by simp) (AllReadyH.cons rfl (fun K hK => ?_) (AllReadyH.nil))
            rw [if_pos (by rfl)]
            refine Lib.wp_append_run _ _ _ 49 49 rfl _ _ rfl rfl _ _ HRN.out ?_
            go_simp
            refine hK.out _ _ (by (first | exact hS | exact z1 | exact z3 | exact z5 | exact z8)) (fun hS => ?_)
            clear hK K
            refine wpAnyH_takeL (i := 9) (v := ?_) rfl (by kernel_rfl) (by kernel_rfl) (by kernel_rfl) (fun _ _ _ h => h) (Or.inl ⟨by kernel_rfl, ?_⟩) hS ?_
            rotate_left
            · intro V hV
              (try dsimp only at hV)
              go_simp
              (try with_reducible rfl)
            simp only [put_list, List.set_cons_succ, List.set_cons_zero]
            refine wpAnyH_takeL (i := 10) (v := ?_) rfl (by kernel_rfl) (by kernel_rfl) (by kernel_rfl) (fun _ _ _ h => h) (Or.inl ⟨by kernel_rfl, ?_⟩) hS ?_
            rotate_left
            · intro V hV
              (try dsimp only at hV)
              go_simp
              (try with_reducible rfl)
            simp only [put_list, List.set_cons_succ, List.set_cons_zero]
            refine wpAnyH_ready (rs := [11]) (by kernel_rfl) (by simp) (AllReadyH.cons rfl (fun K hK => ?_) (AllReadyH.nil))
            go_simp
            refine hK.out _ _ (by (first | exact hS | exact z1 | exact z3 | exact z5 | exact z8)) (fun hS => ?_)
            clear hK K
            refine wpAnyH_done (by kernel_rfl) ?_ _
            clear hS z1 z2 z3 z4 z5 z6 z7 z8
            gi_wp2
            exact ⟨HFI.out.1 _, HFI.out.2.1, HFI.out.2.2⟩
      case done =>
        rintro D' ys W hD rfl hI hK
        have hbc : W.cell? ⟨w1.heap.size, 0, none⟩ = some (.pointer (some ⟨(w1.heap.size + 1), 0, none⟩)) := by
          obtain ⟨role', s', _, _, _, hBb, _⟩ := hI.ex
          exact blk_cell hBb rfl
        have HF : Hid (∃ role' s', DiskOK (W.putObj D' (.deferred none)) role' (w1.heap.size + 1) s' ∧ NewR w (W.putObj D' (.deferred none)) role' ∧ abs s' = abs s) := by
          obtain ⟨role', s', q1, q2, q3⟩ := hI.disk h
          have hg := grownBy_putObj' W D' (.deferred none)
          refine ⟨role', s', q1.grown hg (fun r e hc => ?_), ⟨q2.lo, fun k q e => Nat.lt_of_lt_of_le (q2.hi k q e) hg.size⟩, q3⟩
          cases e
          obtain ⟨cs, t, fr, hc⟩ := hc
          rw [hc] at hK
          cases hK
        have HB : Hid (Below w.heap.size w (W.putObj D' (.deferred none))) := hI.below.trans (belowK_b (w := w) (Nat.le_refl _) W D' _ _ (by have := HBB.out.size; omega) hK rfl rfl)
        clear hI
        gi_wp2
        refine ⟨by simp, .inl ⟨_, _, rfl, run_takeDeferred hK, ?_⟩⟩
        exact ⟨_, results_tmp rfl _ _ _, _, rfl, HF, HB.out⟩
      case stop =>
        rintro D c pre W _ _ h _
        exact h.elim
  · go_simp
    refine hK.out _ _ (by (first | exact hS | exact HS.out _ (below_all1 HB0.out _) | exact HS.out _ hb1 | exact HS.out _ (below_all1 hb1 _) | exact HS.out _ (below_all1 (below_all1 hb1 _) _) | exact HS.out _ (below_set1 (below_all1 hb1 _) (Nat.le_refl _) _) | exact HS.out _ (below_set1 (below_all1 (below_all1 hb1 _) _) (by simp; omega) _))) (fun hS => ?_)
    clear hK K
    refine wpAnyH_ready (rs := [8]) (by kernel_rfl) (by simp) (AllReadyH.cons rfl (fun K hK => ?_) (AllReadyH.nil))
    go_simp
    refine (HCP.out _ (by first | exact HB0.out | exact below_all1 HB0.out _)).mono ?_
    rintro r w1 ⟨v1, v2, v3, rfl, hb1, HFIN⟩
    have hbz := hb1.size
    (try have hA1 := fun o => (box_A HFIN o).1)
    (try have hA2 := fun o => (box_A HFIN o).2)
    refine hK.out _ _ (by (first | exact hS | exact HS.out _ (below_all1 HB0.out _) | exact HS.out _ hb1 | exact HS.out _ (below_all1 hb1 _) | exact HS.out _ (below_all1 (below_all1 hb1 _) _) | exact HS.out _ (below_set1 (below_all1 hb1 _) (Nat.le_refl _) _) | exact HS.out _ (below_set1 (below_all1 (below_all1 hb1 _) _) (by simp; omega) _))) (fun hS => ?_)
    clear hK K
    refine wpAnyH_takeL (i := 13) (v := ?_) rfl (by kernel_rfl) (by kernel_rfl) (by kernel_rfl) (fun _ _ _ h => h) (Or.inl ⟨by kernel_rfl, ?_⟩) hS ?_
    rotate_left
    · intro V hV
      obtain ⟨y1, y2, y3, y4, y5, y6, y7⟩ := hV
      go_simp
      (try with_reducible rfl)
    simp only [put_list, List.set_cons_succ, List.set_cons_zero]
    refine wpAnyH_ready (rs := [14]) (by kernel_rfl) (by simp) (AllReadyH.cons rfl (fun K hK => ?_) (AllReadyH.nil))
    go_simp
    refine hK.out _ _ (by (first | exact hS | exact HS.out _ (below_all1 HB0.out _) | exact HS.out _ hb1 | exact HS.out _ (below_all1 hb1 _) | exact HS.out _ (below_all1 (below_all1 hb1 _) _) | exact HS.out _ (below_set1 (below_all1 hb1 _) (Nat.le_refl _) _) | exact HS.out _ (below_set1 (below_all1 (below_all1 hb1 _) _) (by simp; omega) _))) (fun hS => ?_)
    clear hK K
    refine wpAnyH_ready (rs := [16]) (by kernel_rfl) (by simp) (AllReadyH.cons rfl (fun K hK => ?_) (AllReadyH.nil))
    go_simp
    refine hK.out _ _ (by (first | exact hS | exact HS.out _ (below_all1 HB0.out _) | exact HS.out _ hb1 | exact HS.out _ (below_all1 hb1 _) | exact HS.out _ (below_all1 (below_all1 hb1 _) _) | exact HS.out _ (below_set1 (below_all1 hb1 _) (Nat.le_refl _) _) | exact HS.out _ (below_set1 (below_all1 (below_all1 hb1 _) _) (by simp; omega) _))) (fun hS => ?_)
    clear hK K
    refine wpAnyH_done (by kernel_rfl) ?_ _
    have HCD := fin_A hb1 HFIN
    obtain ⟨W1, hW1⟩ : ∃ W1, W1 = (w1.alloc (.cells #[.bool true, .bool s.dead, .int .i64 s.crash, v1, v2, v3, .int .i64 s.room, .int .i64 s.ops, .slice none 0 0] 51)).setCell ⟨w.heap.size, 0, none⟩ (.pointer (some ⟨w1.heap.size, 0, none⟩)) := ⟨_, rfl⟩
    rw [← hW1] at HCD ⊢
    have hbW1 : Below w.heap.size w W1 := HCD.out.below
    obtain ⟨W0, hW0⟩ : ∃ W0, W1.alloc (.cells #[.pointer (some ⟨D, 0, none⟩)] 29) = W0 := ⟨_, rfl⟩
    have hI0 : CloneD w s w1.heap.size w.heap.size [] W0 := by
      rw [← hW0]
      exact cloneD_own (n := w.heap.size) (Nat.le_refl _) [] _ _ none HCD.out (World.grownBy_alloc W1 _ none) (fun r e => by cases e)
    have hB0 : Below w.heap.size w W0 := hI0.below
    have hd0 := h.still hB0
    have hx1 : W0.cell? ⟨W1.heap.size, 0, none⟩ = some (.pointer (some ⟨D, 0, none⟩)) := by rw [← hW0]; exact (cell_new (W := W1) _ 29).1
    have HW0 := hideP hW0
    have HX1 := hideP hx1
    have HBB := hideP hB0
    have HD0 := hideP hd0
    have HI0 := hideP hI0
    clear hW1 hS HFIN hbW1 hW0 hx1 hB0 hd0 hI0 HCD
    (try clear hA1 hA2)
    simp only [OnlyN]
    gi_wp2_with (first | (refine ⟨trivial, ?_⟩; gi_at_call 51; refine (all_in _ _ _).mono ?_; rintro e w' ⟨rfl, rfl⟩))
    rw [HW0.out]
    refine wpIn_rangeFunc_ownG rfl h1 (gf := 73) (lb := #[.pointer (some ⟨W1.heap.size, 0, none⟩)]) rfl trivial (enters_of Try.func73 (by kernel_rfl) rfl)
      (all_stops (n - 1) (by omega) W1.heap.size D s.filesV s.fs W0 h.few HX1.out HD0.out.cells.2.2 HD0.out.rowI) KpR.trans (KpR.putObj (fun g e => (HD0.out.files.lt g e).2)) (Below.refl _ _) (fun _ => rfl)
      (fun pre W => CloneD w s w1.heap.size w.heap.size pre W)
      (fun _ _ _ => False)
      (cloneD_own HBB.out.size)
      (fun _ _ _ _ _ hs _ _ => hs)
      HI0.out
      (fun x => { tmps := #[.pointer (some ⟨D, 0, none⟩), undef, .pointer none, .pointer (some ⟨w.heap.size, 0, none⟩), ptrV x.1, .pointer (some ⟨D, 0, none⟩), .bool false, .bool false, .pointer (some ⟨D, 0, none⟩), .pointer (some ⟨D, 0, none⟩), .pointer (some ⟨D, 0, none⟩), .bool true, .bool false, .bool false, .pointer (some ⟨D, 0, none⟩), .pointer (some ⟨D, 0, none⟩), .pointer (some ⟨D, 1, none⟩), .bool s.dead, .pointer (some ⟨D, 0, none⟩), .pointer (some ⟨D, 0, none⟩), .pointer (some ⟨D, 2, none⟩), .agg #[.int .i64 s.crash, .slice a1 n1 c1, .slice a2 n2 c2, .slice a3 n3 c3, .int .i64 s.room], .agg #[.int .i64 s.crash, v1, v2, v3, .int .i64 s.room], .pointer (some ⟨D, 0, none⟩), .pointer (some ⟨D, 0, none⟩), .pointer (some ⟨D, 7, none⟩), .int .i64 s.ops, .agg #[.bool true, .bool s.dead, .int .i64 s.crash, v1, v2, v3, .int .i64 s.room, .int .i64 s.ops, .slice none 0 0], .pointer (some ⟨w1.heap.size, 0, none⟩), .pointer (some ⟨D, 0, none⟩), .func (.func 73) #[] #[.pointer (some ⟨W1.heap.size, 0, none⟩)], ptrV x.1, undef, undef, undef, undef, undef, undef, undef, undef, undef, undef, undef, undef], defers := [] }) ?assign ?body ?done ?stop
    case assign =>
      intro l x W K hK
      gi_wp2
      exact hK
    case body =>
      rintro l pre x W hI hlt
      obtain ⟨role', s', hb, hn', hB', hBb, ha⟩ := hI.ex
      obtain ⟨av, cv, hv, _⟩ := own_slice hb.files
      have hc8 : W.cell? ⟨w1.heap.size, 8, none⟩ = some s'.filesV := blk_cell hb.blk rfl
      rw [hv] at hc8
      have hcB : W.cell? ⟨w.heap.size, 0, none⟩ = some (.pointer (some ⟨w1.heap.size, 0, none⟩)) := blk_cell hBb rfl
      have HCL := clone_round (x := x) hI h hlt hc8
      simp only [ptrV]
      clear hb hn' hB' hBb ha hv hI
      gi_wp2
      refine regionIn_held (S := fun V => V.cell? ⟨w.heap.size, 0, none⟩ = some (.pointer (some ⟨w1.heap.size, 0, none⟩))) (by kernel_rfl) (fun ⟨_, _, h⟩ => h) (nd_of (by kernel_rfl)) hcB (fun hS => ?_)
      refine wpAnyH_takeL (i := 0) (v := ?_) rfl (by kernel_rfl) (by kernel_rfl) (by kernel_rfl) (fun _ _ _ h => h) (Or.inl ⟨by kernel_rfl, ?_⟩) hS ?_
      rotate_left
      · intro V hV
        (try dsimp only at hV)
        go_simp
        (try with_reducible rfl)
      simp only [put_list, List.set_cons_succ, List.set_cons_zero]
      refine wpAnyH_takeL (i := 1) (v := ?_) rfl (by kernel_rfl) (by kernel_rfl) (by kernel_rfl) (fun _ _ _ h => h) (Or.inl ⟨by kernel_rfl, ?_⟩) hS ?_
      rotate_left
      · intro V hV
        (try dsimp only at hV)
        go_simp
        (try with_reducible rfl)
      simp only [put_list, List.set_cons_succ, List.set_cons_zero]
      refine wpAnyH_takeL (i := 2) (v := ?_) rfl (by kernel_rfl) (by kernel_rfl) (by kernel_rfl) (fun _ _ _ h => h) (Or.inl ⟨by kernel_rfl, ?_⟩) hS ?_
      rotate_left
      · intro V hV
        (try dsimp only at hV)
        go_simp
        (try with_reducible rfl)
      simp only [put_list, List.set_cons_succ, List.set_cons_zero]
      refine wpAnyH_takeL (i := 3) (v := ?_) rfl (by kernel_rfl) (by kernel_rfl) (by kernel_rfl) (fun _ _ _ h => h) (Or.inl ⟨by kernel_rfl, ?_⟩) hS ?_
      rotate_left
      · intro V hV
        (try dsimp only at hV)
        go_simp
        (try with_reducible rfl)
      simp only [put_list, List.set_cons_succ, List.set_cons_zero]
      refine wpAnyH_takeL (i := 5) (v := ?_) rfl (by kernel_rfl) (by kernel_rfl) (by kernel_rfl) (fun _ _ _ h => h) (Or.inl ⟨by kernel_rfl, ?_⟩) hS ?_
      rotate_left
      · intro V hV
        (try dsimp only at hV)
        go_simp
        (try with_reducible rfl)
      simp only [put_list, List.set_cons_succ, List.set_cons_zero]
      refine wpAnyH_ready (rs := [4, 6]) (by kernel_rfl) (by simp) (AllReadyH.cons rfl (fun K hK => ?_) (AllReadyH.cons rfl (fun K hK => ?_) (AllReadyH.nil)))
      · go_simp
        refine hK.out _ _ (by (first | exact hS | exact z1 | exact z3 | exact z5 | exact z8)) (fun hS => ?_)
        clear hK K
        refine wpAnyH_ready (rs := [6]) (by kernel_rfl) (by simp) (AllReadyH.cons rfl (fun K hK => ?_) (AllReadyH.nil))
        go_simp
        refine HCL.out.mono ?_
        rintro r w2 ⟨p, rfl, HX⟩
        obtain ⟨z1, z2, z3, z4, a4, n4, k4, w3, HRN, z5, z6, z7, z8, HFI⟩ := HX.out
        refine hK.out _ _ (by (first | exact hS | exact z1 | exact z3 | exact z5 | exact z8)) (fun hS => ?_)
        clear hK K
        refine wpAnyH_ready (rs := [7]) (by kernel_rfl) (by simp) (AllReadyH.cons rfl (fun K hK => ?_) (AllReadyH.nil))
        go_simp
        refine hK.out _ _ (by (first | exact hS | exact z1 | exact z3 | exact z5 | exact z8)) (fun hS => ?_)
        clear hK K
        refine wpAnyH_ready (rs := [8]) (by kernel_rfl) (by simp) (AllReadyH.cons rfl (fun K hK => ?_) (AllReadyH.nil))
        rw [if_pos (by rfl)]
        refine Lib.wp_append_run _ _ _ 49 49 rfl _ _ rfl rfl _ _ HRN.out ?_
        go_simp
        refine hK.out _ _ (by (first | exact hS | exact z1 | exact z3 | exact z5 | exact z8)) (fun hS => ?_)
        clear hK K
        refine wpAnyH_takeL (i := 9) (v := ?_) rfl (by kernel_rfl) (by kernel_rfl) (by kernel_rfl) (fun _ _ _ h => h) (Or.inl ⟨by kernel_rfl, ?_⟩) hS ?_
        rotate_left
        · intro V hV
          (try dsimp only at hV)
          go_simp
          (try with_reducible rfl)
        simp only [put_list, List.set_cons_succ, List.set_cons_zero]
        refine wpAnyH_takeL (i := 10) (v := ?_) rfl (by kernel_rfl) (by kernel_rfl) (by kernel_rfl) (fun _ _ _ h => h) (Or.inl ⟨by kernel_rfl, ?_⟩) hS ?_
        rotate_left
        · intro V hV
          (try dsimp only at hV)
          go_simp
          (try with_reducible rfl)
        simp only [put_list, List.set_cons_succ, List.set_cons_zero]
        refine wpAnyH_ready (rs := [11]) (by kernel_rfl) (by simp) (AllReadyH.cons rfl (fun K hK => ?_) (AllReadyH.nil))
        go_simp
        refine hK.out _ _ (by (first | exact hS | exact z1 | exact z3 | exact z5 | exact z8)) (fun hS => ?_)
        clear hK K
        refine wpAnyH_done (by kernel_rfl) ?_ _
        clear hS z1 z2 z3 z4 z5 z6 z7 z8
        gi_wp2
        exact ⟨HFI.out.1 _, HFI.out.2.1, HFI.out.2.2⟩
      · go_simp
        refine HCL.out.mono ?_
        rintro r w2 ⟨p, rfl, HX⟩
        obtain ⟨z1, z2, z3, z4, a4, n4, k4, w3, HRN, z5, z6, z7, z8, HFI⟩ := HX.out
        refine hK.out _ _ (by (first | exact hS | exact z1 | exact z3 | exact z5 | exact z8)) (fun hS => ?_)
        clear hK K
        refine wpAnyH_ready (rs := [4, 7]) (by kernel_rfl) (by simp) (AllReadyH.cons rfl (fun K hK => ?_) (AllReadyH.cons rfl (fun K hK => ?_) (AllReadyH.nil)))
        · go_simp
          refine hK.out _ _ (by (first | exact hS | exact z1 | exact z3 | exact z5 | exact z8)) (fun hS => ?_)
          clear hK K
          refine wpAnyH_ready (rs := [7]) (by kernel_rfl) (by simp) (AllReadyH.cons rfl (fun K hK => ?_) (AllReadyH.nil))
          go_simp
          refine hK.out _ _ (by (first | exact hS | exact z1 | exact z3 | exact z5 | exact z8)) (fun hS => ?_)
          clear hK K
          refine wpAnyH_ready (rs := [8]) (by kernel_rfl) (by simp) (AllReadyH.cons rfl (fun K hK => ?_) (AllReadyH.nil))
          rw [if_pos (by rfl)]
          refine Lib.wp_append_run _ _ _ 49 49 rfl _ _ rfl rfl _ _ HRN.out ?_
          go_simp
          refine hK.out _ _ (by (first | exact hS | exact z1 | exact z3 | exact z5 | exact z8)) (fun hS => ?_)
          clear hK K
          refine wpAnyH_takeL (i := 9) (v := ?_) rfl (by kernel_rfl) (by kernel_rfl) (by kernel_rfl) (fun _ _ _ h => h) (Or.inl ⟨by kernel_rfl, ?_⟩) hS ?_
          rotate_left
          · intro V hV
            (try dsimp only at hV)
            go_simp
            (try with_reducible rfl)
          simp only [put_list, List.set_cons_succ, List.set_cons_zero]
          refine wpAnyH_takeL (i := 10) (v := ?_) rfl (by kernel_rfl) (by kernel_rfl) (by kernel_rfl) (fun _ _ _ h => h) (Or.inl ⟨by kernel_rfl, ?_⟩) hS ?_
          rotate_left
          · intro V hV
            (try dsimp only at hV)
            go_simp
            (try with_reducible rfl)
          simp only [put_list, List.set_cons_succ, List.set_cons_zero]
          refine wpAnyH_ready (rs := [11]) (by kernel_rfl) (by simp) (AllReadyH.cons rfl (fun K hK => ?_) (AllReadyH.nil))
          go_simp
          refine hK.out _ _ (by (first | exact hS | exact z1 | exact z3 | exact z5 | exact z8)) (fun hS => ?_)
          clear hK K
          refine wpAnyH_done (by kernel_rfl) ?_ _
          clear hS z1 z2 z3 z4 z5 z6 z7 z8
          gi_wp2
          exact ⟨HFI.out.1 _, HFI.out.2.1, HFI.out.2.2⟩
        · go_simp
          refine hK.out _ _ (by (first | exact hS | exact z1 | exact z3 | exact z5 | exact z8)) (fun hS => ?_)
          clear hK K
          refine wpAnyH_ready (rs := [4]) (by kernel_rfl) (by simp) (AllReadyH.cons rfl (fun K hK => ?_) (AllReadyH.nil))
          go_simp
          refine hK.out _ _ (by (first | exact hS | exact z1 | exact z3 | exact z5 | exact z8)) (fun hS => ?_)
          clear hK K
          refine wpAnyH_ready (rs := [8]) (by kernel_rfl) (by simp) (AllReadyH.cons rfl (fun K hK => ?_) (AllReadyH.nil))
          rw [if_pos (by rfl)]
          refine Lib.wp_append_run _ _ _ 49 49 rfl _ _ rfl rfl _ _ HRN.out ?_
          go_simp
          refine hK.out _ _ (by (first | exact hS | exact z1 | exact z3 | exact z5 | exact z8)) (fun hS => ?_)
          clear hK K
          refine wpAnyH_takeL (i := 9) (v := ?_) rfl (by kernel_rfl) (by kernel_rfl) (by kernel_rfl) (fun _ _ _ h => h) (Or.inl ⟨by kernel_rfl, ?_⟩) hS ?_
          rotate_left
          · intro V hV
            (try dsimp only at hV)
            go_simp
            (try with_reducible rfl)
          simp only [put_list, List.set_cons_succ, List.set_cons_zero]
          refine wpAnyH_takeL (i := 10) (v := ?_) rfl (by kernel_rfl) (by kernel_rfl) (by kernel_rfl) (fun _ _ _ h => h) (Or.inl ⟨by kernel_rfl, ?_⟩) hS ?_
          rotate_left
          · intro V hV
            (try dsimp only at hV)
            go_simp
            (try with_reducible rfl)
          simp only [put_list, List.set_cons_succ, List.set_cons_zero]
          refine wpAnyH_ready (rs := [11]) (by kernel_rfl) (by simp) (AllReadyH.cons rfl (fun K hK => ?_) (AllReadyH.nil))
          go_simp
          refine hK.out _ _ (by (first | exact hS | exact z1 | exact z3 | exact z5 | exact z8)) (fun hS => ?_)
          clear hK K
          refine wpAnyH_done (by kernel_rfl) ?_ _
          clear hS z1 z2 z3 z4 z5 z6 z7 z8
          gi_wp2
          exact ⟨HFI.out.1 _, HFI.out.2.1, HFI.out.2.2⟩
    case done =>
      rintro D' ys W hD rfl hI hK
      have hbc : W.cell? ⟨w.heap.size, 0, none⟩ = some (.pointer (some ⟨w1.heap.size, 0, none⟩)) := by
        obtain ⟨role', s', _, _, _, hBb, _⟩ := hI.ex
        exact blk_cell hBb rfl
      have HF : Hid (∃ role' s', DiskOK (W.putObj D' (.deferred none)) role' w1.heap.size s' ∧ NewR w (W.putObj D' (.deferred none)) role' ∧ abs s' = abs s) := by
        obtain ⟨role', s', q1, q2, q3⟩ := hI.disk h
        have hg := grownBy_putObj' W D' (.deferred none)
        refine ⟨role', s', q1.grown hg (fun r e hc => ?_), ⟨q2.lo, fun k q e => Nat.lt_of_lt_of_le (q2.hi k q e) hg.size⟩, q3⟩
        cases e
        obtain ⟨cs, t, fr, hc⟩ := hc
        rw [hc] at hK
        cases hK
      have HB : Hid (Below w.heap.size w (W.putObj D' (.deferred none))) := hI.below.trans (belowK_b (w := w) (Nat.le_refl _) W D' _ _ (by have := HBB.out.size; omega) hK rfl rfl)
      clear hI
      gi_wp2
      refine ⟨by simp, .inl ⟨_, _, rfl, run_takeDeferred hK, ?_⟩⟩
      exact ⟨_, results_tmp rfl _ _ _, _, rfl, HF, HB.out⟩
    case stop =>
      rintro D c pre W _ _ h _
      exact h.elim

end Go.Proofs.Ytcceaokldphfgaa
