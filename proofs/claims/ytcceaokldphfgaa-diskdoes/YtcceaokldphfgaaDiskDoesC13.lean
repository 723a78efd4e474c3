/- YtcceaokldphfgaaDiskDoesC13 -/
import Derived.Test.YtcceaokldphfgaaDiskDoesC12
namespace Go.Proofs.Ytcceaokldphfgaa
open Go.RowKit Go.Shelf

attribute [local go_sem] Oper.semAt_some

theorem Try.info69 : (Try.prog.info? 69).map (fun i => (i.zero, i.size, i.bytes)) = some (some (.agg #[.string ByteArray.empty, .slice none 0 0]), 2, 40) := by kernel_rfl

theorem Oth.ofBelow {W W' : World} (h : Below W.heap.size W W') : Oth W W' := ⟨h.size, fun k hk _ => h.block k hk⟩

/-- What Files has gathered: so many files, in a row of its own. -/
structure FilesI (w : World) {α : Type} (pre : List α) (W : World) : Prop where
  ex : ∃ a c cs, W.heap[w.heap.size]? = some (.cells #[.slice a pre.length c] 53 (0, 0)) ∧ W.ownsRow w.heap.size 69 2 (.slice a pre.length c) pre.length cs
  below : Below w.heap.size w W

theorem own_block {w : World} {base e size n g : Nat} {v : Value} {xs : List Value} (h : w.ownsRow base e size v n xs) (hv : v.ownBlock = some g) : ∃ cur, w.heap[g]? = some (.cells cur e (0, 0)) ∧ base ≤ g := by
  rcases h.2 with ⟨rfl, _⟩ | ⟨g', cap, cur, rfl, hb, hg, _⟩
  · simp [Value.ownBlock] at hv
  · simp only [Value.ownBlock, Option.some.injEq] at hv
    subst hv
    exact ⟨cur, hg, hb⟩

theorem own_shape {w : World} {base e size n : Nat} {v : Value} {xs : List Value} (h : w.ownsRow base e size v n xs) : ∃ a c, v = .slice a n c := by
  rcases h.2 with ⟨rfl, rfl⟩ | ⟨g', cap, cur, rfl, _⟩
  · exact ⟨_, _, rfl⟩
  · exact ⟨_, _, rfl⟩

theorem filesI_own {w : World} {α : Type} {B : Nat} (hB : w.heap.size ≤ B) : OwnFrom B (fun (pre : List α) W => FilesI w pre W) := by
  intro pre W W' row h hg hr
  have hn : ∀ r, row = some r → ¬ isC W r := by
    rintro r e ⟨cs, t, fr, hc⟩
    obtain ⟨_, o, ho, hcc⟩ := hr r e
    rw [hc] at ho
    cases ho
    simp [Obj.isCells] at hcc
  obtain ⟨a, c, cs, h1, h2⟩ := h.ex
  refine ⟨⟨a, c, cs, (hg.block _ (Array.getElem?_eq_some_iff.1 h1).1 (fun e => hn _ e.symm ⟨_, _, _, h1⟩)).trans h1, h2.kept hg ?_⟩, h.below.grown hg h.below.size (fun k e => Nat.le_trans hB (hr k e).1)⟩
  cases e : (Value.slice a pre.length c).ownBlock with
  | none => exact .inl rfl
  | some g =>
    right
    intro e'
    obtain ⟨cur, hgg, _⟩ := own_block h2 e
    exact hn g e'.symm ⟨_, _, _, hgg⟩

/-- One file more: what append does to the row, and what stands when it is stored. -/
theorem files_step {w W w2 : World} {role : Role} {D : Nat} {s : DSt} {α : Type} {pre : List α} {x : α} {nm : ByteArray} {d2 : Value} {a : Option Addr} {c : Nat} {cs : List Value} (h : DiskOK w role D s)
    (hbx : W.heap[w.heap.size]? = some (.cells #[.slice a pre.length c] 53 (0, 0))) (hown : W.ownsRow w.heap.size 69 2 (.slice a pre.length c) pre.length cs) (hb : Below w.heap.size w W) (hb2 : Below W.heap.size W w2) (hn : pre.length < 4096) (hd : d2.oneCell' = true) :
    ∃ a3 n3 c3 w3, (Builtin.append_ #[53, 53] 53 #[.slice a pre.length c, .slice (some ⟨w2.heap.size, 0, none⟩) 1 1]).run Try.prog (w2.alloc (.cells #[.string nm, d2] 69)) = .ok (.slice a3 n3 c3) w3 ∧
      w3.cell? ⟨w.heap.size, 0, none⟩ = some (.slice a pre.length c) ∧ w3.frozen? ⟨w.heap.size, 0, none⟩ = false ∧ Below w.heap.size w w3 ∧ Below w.heap.size w (w3.setCell ⟨w.heap.size, 0, none⟩ (.slice a3 n3 c3)) ∧
      (∀ B, KeepsFrom B W (w3.setCell ⟨w.heap.size, 0, none⟩ (.slice a3 n3 c3))) ∧ KpR s.filesV s.fs W (w3.setCell ⟨w.heap.size, 0, none⟩ (.slice a3 n3 c3)) ∧ FilesI w (pre ++ [x]) (w3.setCell ⟨w.heap.size, 0, none⟩ (.slice a3 n3 c3)) := by
  obtain ⟨i0, hi0, hz0, hz1, hz2⟩ := info_parts Try.info69
  have hBlt : w.heap.size < W.heap.size := (Array.getElem?_eq_some_iff.1 hbx).1
  have hVb : Below W.heap.size W (w2.alloc (.cells #[.string nm, d2] 69)) := hb2.alloc hb2.size _
  have hrow : ∀ g, (Value.slice a pre.length c).ownBlock = some g → g < W.heap.size ∧ g ≠ w.heap.size ∧ isC W g := by
    intro g e
    obtain ⟨cur, hg, _⟩ := own_block hown e
    refine ⟨(Array.getElem?_eq_some_iff.1 hg).1, fun e' => ?_, ⟨_, _, _, hg⟩⟩
    rw [e'] at hg
    rw [hg] at hbx
    simp at hbx
  have hownV : (w2.alloc (.cells #[.string nm, d2] 69)).ownsRow w.heap.size 69 2 (.slice a pre.length c) pre.length cs := by
    obtain ⟨hl, h' | ⟨g, cap, cur, e, hbg, hg, hr⟩⟩ := hown
    · exact ⟨hl, .inl h'⟩
    · exact ⟨hl, .inr ⟨g, cap, cur, e, hbg, (hVb.block g (Array.getElem?_eq_some_iff.1 hg).1).trans hg, hr⟩⟩
  have hnew : (w2.alloc (.cells #[.string nm, d2] 69)).heap[w2.heap.size]? = some (.cells #[.string nm, d2] 69 (0, 0)) := World.alloc_heap_new w2 _
  obtain ⟨v3, w3, hrun, hown3, hgr, _⟩ := run_append_own (P := Try.prog) (w2.alloc (.cells #[.string nm, d2] 69)) w.heap.size 53 53 69 i0 (.agg #[.string ByteArray.empty, .slice none 0 0]) 2 40 Try.underlying53 hi0 hz0 hz1 hz2 rfl (by decide) (.slice a pre.length c) pre.length cs hownV ⟨w2.heap.size, 0, none⟩ 1 1 [.string nm, d2] rfl
    (fun j u hu => by
      rw [Addr.add_lit, Nat.zero_add]
      match j, hu with
      | 0, hu => simp only [List.getElem?_cons_zero, Option.some.injEq] at hu; subst hu; exact blk_cell hnew rfl
      | 1, hu => simp only [List.getElem?_cons_succ, List.getElem?_cons_zero, Option.some.injEq] at hu; subst hu; exact blk_cell hnew rfl
      | j + 2, hu => simp at hu)
    (fun u hu => by
      simp only [List.mem_cons, List.not_mem_nil, or_false] at hu
      rcases hu with rfl | rfl
      · rfl
      · exact hd) (by unfold maxLen; omega) (by omega) (by have := hVb.size; omega)
  obtain ⟨a3, c3, rfl⟩ := own_shape hown3
  have hVW : W.heap.size ≤ (w2.alloc (.cells #[.string nm, d2] 69)).heap.size := hVb.size
  have hsame : ∀ k, k < W.heap.size → (Value.slice a pre.length c).ownBlock ≠ some k → w3.heap[k]? = W.heap[k]? := fun k hk hne => (hgr.block k (by omega) (fun e => hne e.symm)).trans (hVb.block k hk)
  have hbx3 : w3.heap[w.heap.size]? = some (.cells #[.slice a pre.length c] 53 (0, 0)) := (hsame _ hBlt (fun e => (hrow _ e).2.1 rfl)).trans hbx
  have hbel3 : Below w.heap.size w w3 := by
    have h1 : Below w.heap.size w (w2.alloc (.cells #[.string nm, d2] 69)) := hb.trans (hVb.mono (by omega))
    exact h1.grown hgr (by omega) (fun k e => by
      obtain ⟨_, _, hk⟩ := own_block hown e
      exact hk)
  have hbel4 : Below w.heap.size w (w3.setCell ⟨w.heap.size, 0, none⟩ (.slice a3 (pre.length + 1) c3)) := hbel3.setCell (p := ⟨w.heap.size, 0, none⟩) (Nat.le_refl _) _
  have hoth : Oth W (w3.setCell ⟨w.heap.size, 0, none⟩ (.slice a3 (pre.length + 1) c3)) := by
    refine Oth.trans (B := w3) ⟨by have := hgr.size; omega, fun k hk hn => hsame k hk (fun e => hn (hrow k e).2.2)⟩ (Oth.setCell hbx3 _)
  refine ⟨a3, _, c3, w3, hrun, blk_cell hbx3 rfl, blk_free hbx3, hbel3, hbel4, fun B => hoth.keeps B, KpR.of_same (fun g e => ?_), ⟨⟨a3, c3, cs ++ [.string nm, d2], ?_, ?_⟩, hbel4⟩⟩
  · have hg := (h.files.lt g e).2
    exact (hbel4.block g hg).trans (hb.block g hg).symm
  · have := blk_set (o := 0) hbx3 (.slice a3 (pre.length + 1) c3)
    simpa using this
  · have hne : (Value.slice a3 (pre.length + 1) c3).ownBlock ≠ some w.heap.size := fun e => by
      obtain ⟨cur, hg, _⟩ := own_block hown3 e
      rw [hg] at hbx3
      simp at hbx3
    have := ownsRow_setCell_other hown3 (a := ⟨w.heap.size, 0, none⟩) hne (.slice a3 (pre.length + 1) c3)
    simpa using this

set_option maxHeartbeats 4000000 in
set_option maxRecDepth 100000 in
theorem files_in {w : World} {role : Role} {D : Nat} {s : DSt} (h : DiskOK w role D s) (hdd : s.dead = false) (n : Nat) (hn : 8 ≤ n) :
    CallsIn Fence.wide n Try.prog 21 #[.pointer (some ⟨D, 0, none⟩)] w fun e w' => (∃ a c, e = .returned (.slice a s.fs.length c)) ∧ Below w.heap.size w w' := by
  have h1 : 1 ≤ n := by omega
  have hdead := dDead h false hdd
  refine callsIn_of_wp_marks Try.func21 rfl trivial ?_ rfl
  simp only [Try.ntmps21, List.size_toArray, List.length_cons, List.length_nil, Nat.reduceAdd, Nat.reduceSub, Array.replicate_succ, Array.replicate_zero, List.push_toArray, List.append_toArray, List.nil_append, List.cons_append]
  gi_wp2_with (first | (refine ⟨trivial, ?_⟩; gi_at_call 20; refine (callsIn_wide.2 hdead).mono ?_; rintro e w' ⟨rfl, rfl⟩) | (refine ⟨trivial, ?_⟩; gi_at_call 51; refine (all_in _ _ _).mono ?_; rintro e w' ⟨rfl, rfl⟩))
  obtain ⟨W0, hW0⟩ : ∃ W0, (w.alloc (.cells #[.slice none 0 0] 53)).alloc (.cells #[.pointer (some ⟨D, 0, none⟩)] 29) = W0 := ⟨_, rfl⟩
  have hsz : W0.heap.size = w.heap.size + 2 := by rw [← hW0]; simp
  have hB0 : Below w.heap.size w W0 := by rw [← hW0]; exact ((Below.refl _ w).alloc (Nat.le_refl _) _).alloc (by simp) _
  have hd0 := h.still hB0
  have hx0 : W0.heap[w.heap.size]? = some (.cells #[.slice none 0 0] 53 (0, 0)) := by
    rw [← hW0]
    exact (Below.heap_alloc _ _ _ (by simp)).trans (World.alloc_heap_new w _)
  have hx1 : W0.cell? ⟨w.heap.size + 1, 0, none⟩ = some (.pointer (some ⟨D, 0, none⟩)) := by
    rw [← hW0]
    have := (cell_new (W := w.alloc (.cells #[.slice none 0 0] 53)) (.pointer (some ⟨D, 0, none⟩)) 29).1
    rwa [World.size_alloc] at this
  rw [hW0]
  clear hW0
  refine wpIn_rangeFunc_ownG rfl h1 (gf := 73) (lb := #[.pointer (some ⟨w.heap.size + 1, 0, none⟩)]) rfl trivial (enters_of Try.func73 (by kernel_rfl) rfl)
    (all_stops (n - 1) (by omega) (w.heap.size + 1) D s.filesV s.fs W0 h.few hx1 hd0.cells.2.2 hd0.rowI) KpR.trans (KpR.putObj (fun g e => (hd0.files.lt g e).2)) (Below.refl _ _) (fun _ => rfl)
    (fun pre W => FilesI w pre W)
    (fun _ _ _ => False)
    (filesI_own (by omega))
    (fun _ _ _ _ _ hs _ _ => hs)
    ⟨⟨none, 0, [], hx0, World.ownsRow_nil _ _ _ _⟩, hB0⟩
    (fun x => { tmps := #[.pointer (some ⟨D, 0, none⟩), undef, .slice none 0 0, .pointer (some ⟨w.heap.size, 0, none⟩), ptrV x.1, .pointer (some ⟨D, 0, none⟩), .bool false, .pointer (some ⟨D, 0, none⟩), .func (.func 73) #[] #[.pointer (some ⟨w.heap.size + 1, 0, none⟩)], ptrV x.1, undef, undef, undef, undef, undef, undef, undef, undef, undef, undef, undef, undef, undef, undef], defers := [] }) ?assign ?body ?done ?stop
  case assign =>
    intro l x W K hK
    gi_wp2
    exact hK
  case body =>
    rintro l pre x W hI hlt
    obtain ⟨a0, c0, cs0, hbx, hrow⟩ := hI.ex
    have hbel := hI.below
    have hF := h.each x.1 x.2
    have hplt : x.1.p < w.heap.size := h.dom _ _ hF.rp
    have hFW : W.heap[x.1.p]? = _ := (hbel.block _ hplt).trans hF.blk
    have hnm : W.cell? ⟨x.1.p, 0, none⟩ = some (.string x.1.a.name) := blk_cell hFW rfl
    have hcd : W.cell? ⟨x.1.p, 3, none⟩ = some x.1.dataV := blk_cell hFW rfl
    have hod : W.ownsRow 0 5 1 x.1.dataV x.1.a.data.length (x.1.a.data.map byteV) := own_same hF.odata (fun k e _ => hbel.block k (h.dom _ _ (hF.rdata k e)))
    obtain ⟨av, cv, hv, _⟩ := own_slice hF.odata
    have hld := hF.ldata
    have hbc : W.cell? ⟨w.heap.size, 0, none⟩ = some (.slice a0 pre.length c0) := blk_cell hbx rfl
    have hcp := copyBytes_any x.1.dataV x.1.a.data W.drew (Rd.of_own hod) (by omega)
    rw [hv] at hcd hcp
    have hlen : pre.length < 4096 := by have := h.few; omega
    have HCP : Hid (Calls Try.prog 46 #[.slice av x.1.a.data.length cv] W.drew fun e w2 => e = .returned (.slice (some ⟨W.heap.size, 0, none⟩) x.1.a.data.length x.1.a.data.length) ∧
        Hid (w2.cell? ⟨w.heap.size, 0, none⟩ = some (.slice a0 pre.length c0) ∧ (∀ o, (w2.alloc o).cell? ⟨w.heap.size, 0, none⟩ = some (.slice a0 pre.length c0)) ∧ (w2.cell? ⟨x.1.p, 0, none⟩ = some (.string x.1.a.name) ∧ w2.cell? ⟨x.1.p, 3, none⟩ = some (.slice av x.1.a.data.length cv)) ∧
          ((w2.alloc (.cells #[.string x.1.a.name, .slice (some ⟨W.heap.size, 0, none⟩) x.1.a.data.length x.1.a.data.length] 69)).cell? ⟨x.1.p, 0, none⟩ = some (.string x.1.a.name) ∧ (w2.alloc (.cells #[.string x.1.a.name, .slice (some ⟨W.heap.size, 0, none⟩) x.1.a.data.length x.1.a.data.length] 69)).cell? ⟨x.1.p, 3, none⟩ = some (.slice av x.1.a.data.length cv)) ∧
          ∃ a3 n3 c3 w3, Hid ((Builtin.append_ #[53, 53] 53 #[.slice a0 pre.length c0, .slice (some ⟨w2.heap.size, 0, none⟩) 1 1]).run Try.prog (w2.alloc (.cells #[.string x.1.a.name, .slice (some ⟨W.heap.size, 0, none⟩) x.1.a.data.length x.1.a.data.length] 69)) = .ok (.slice a3 n3 c3) w3) ∧
            w3.cell? ⟨w.heap.size, 0, none⟩ = some (.slice a0 pre.length c0) ∧ w3.frozen? ⟨w.heap.size, 0, none⟩ = false ∧ (w3.cell? ⟨x.1.p, 0, none⟩ = some (.string x.1.a.name) ∧ w3.cell? ⟨x.1.p, 3, none⟩ = some (.slice av x.1.a.data.length cv)) ∧
            ((w3.setCell ⟨w.heap.size, 0, none⟩ (.slice a3 n3 c3)).cell? ⟨x.1.p, 0, none⟩ = some (.string x.1.a.name) ∧ (w3.setCell ⟨w.heap.size, 0, none⟩ (.slice a3 n3 c3)).cell? ⟨x.1.p, 3, none⟩ = some (.slice av x.1.a.data.length cv)) ∧
            Hid (KeepsFrom W0.heap.size W (w3.setCell ⟨w.heap.size, 0, none⟩ (.slice a3 n3 c3)) ∧ KpR s.filesV s.fs W (w3.setCell ⟨w.heap.size, 0, none⟩ (.slice a3 n3 c3)) ∧ FilesI w (pre ++ [x]) (w3.setCell ⟨w.heap.size, 0, none⟩ (.slice a3 n3 c3))))) := by
      refine hcp.mono ?_
      rintro e w2 ⟨rfl, _, hb2⟩
      have hb2' : Below W.heap.size W w2 := ⟨hb2.os, hb2.tape, hb2.output, hb2.size, hb2.block⟩
      have hbw2 : Below w.heap.size w w2 := hbel.trans (hb2'.mono (by have := hbel.size; omega))
      have hbw2a := fun o => hbw2.alloc hbw2.size o
      have hnw := blk_cell (o := 0) hF.blk (v := .string x.1.a.name) rfl
      have hdw : w.cell? ⟨x.1.p, 3, none⟩ = some (.slice av x.1.a.data.length cv) := by rw [← hv]; exact blk_cell hF.blk rfl
      have hall : ∀ V, Below w.heap.size w V → V.cell? ⟨x.1.p, 0, none⟩ = some (.string x.1.a.name) ∧ V.cell? ⟨x.1.p, 3, none⟩ = some (.slice av x.1.a.data.length cv) := fun V hV => ⟨(hV.cell (p := ⟨x.1.p, 0, none⟩) hplt).trans hnw, (hV.cell (p := ⟨x.1.p, 3, none⟩) hplt).trans hdw⟩
      have hbx2 := (hb2'.block _ (Array.getElem?_eq_some_iff.1 hbx).1).trans hbx
      have hc2 : w2.cell? ⟨w.heap.size, 0, none⟩ = some (.slice a0 pre.length c0) := blk_cell hbx2 rfl
      obtain ⟨a3, n3, c3, w3, q1, q2, q3, q4, q5, q6, q7, q8⟩ := files_step (x := x) (nm := x.1.a.name) (d2 := .slice (some ⟨W.heap.size, 0, none⟩) x.1.a.data.length x.1.a.data.length) h hbx hrow hbel hb2' hlen rfl
      exact ⟨rfl, hc2, fun o => (World.grownBy_alloc w2 o none).cell hc2 (by simp), hall w2 hbw2, hall _ (hbw2a _), a3, n3, c3, w3, q1, q2, q3, hall w3 q4, hall _ q5, q6 _, q7, q8⟩
    simp only [ptrV]
    clear hcp hod hF hFW hv hbx hrow hbel hI hx0 hx1 hd0 hB0 hdead
    gi_wp2
    refine regionIn_held (S := fun V => V.cell? ⟨x.1.p, 0, none⟩ = some (.string x.1.a.name) ∧ V.cell? ⟨x.1.p, 3, none⟩ = some (.slice av x.1.a.data.length cv)) (by kernel_rfl) (fun ⟨_, _, h⟩ => h) (nd_of (by kernel_rfl)) ⟨hnm, hcd⟩ (fun hS => ?_)
    refine wpAnyH_take (i := 1) (v := ?_) rfl (by kernel_rfl) (by kernel_rfl) (by kernel_rfl) (fun _ _ _ h => h) (Or.inl ⟨by rfl, ?_⟩) hS ?_
    rotate_left
    · intro V hV
      (try dsimp only at hV)
      go_simp
      (try with_reducible rfl)
    simp only [Act.put, List.setIfInBounds_toArray]
    refine wpAnyH_take (i := 2) (v := ?_) rfl (by kernel_rfl) (by kernel_rfl) (by kernel_rfl) (fun _ _ _ h => h) (Or.inl ⟨by rfl, ?_⟩) hS ?_
    rotate_left
    · intro V hV
      (try dsimp only at hV)
      go_simp
      (try with_reducible rfl)
    simp only [Act.put]
    refine wpAnyH_take (i := 3) (v := ?_) rfl (by kernel_rfl) (by kernel_rfl) (by kernel_rfl) (fun _ _ _ h => h) (Or.inl ⟨by rfl, ?_⟩) hS ?_
    rotate_left
    · intro V hV
      (try dsimp only at hV)
      go_simp
      (try with_reducible rfl)
    simp only [Act.put]
    refine wpAnyH_take (i := 4) (v := ?_) rfl (by kernel_rfl) (by kernel_rfl) (by kernel_rfl) (fun _ _ _ h => h) (Or.inl ⟨by rfl, ?_⟩) hS ?_
    rotate_left
    · intro V hV
      (try dsimp only at hV)
      go_simp
      (try with_reducible rfl)
    simp only [Act.put]
    refine wpAnyH_take (i := 5) (v := ?_) rfl (by kernel_rfl) (by kernel_rfl) (by kernel_rfl) (fun _ _ _ h => h) (Or.inl ⟨by rfl, ?_⟩) hS ?_
    rotate_left
    · intro V hV
      (try dsimp only at hV)
      go_simp
      (try with_reducible rfl)
    simp only [Act.put]
    refine wpAnyH_take (i := 6) (v := ?_) rfl (by kernel_rfl) (by kernel_rfl) (by kernel_rfl) (fun _ _ _ h => h) (Or.inl ⟨by rfl, ?_⟩) hS ?_
    rotate_left
    · intro V hV
      (try dsimp only at hV)
      go_simp
      (try with_reducible rfl)
    simp only [Act.put]
    refine wpAnyH_take (i := 7) (v := ?_) rfl (by kernel_rfl) (by kernel_rfl) (by kernel_rfl) (fun _ _ _ h => h) (Or.inl ⟨by rfl, ?_⟩) hS ?_
    rotate_left
    · intro V hV
      (try dsimp only at hV)
      go_simp
      (try with_reducible rfl)
    simp only [Act.put]
    refine wpAnyH_take (i := 8) (v := ?_) rfl (by kernel_rfl) (by kernel_rfl) (by kernel_rfl) (fun _ _ _ h => h) (Or.inl ⟨by rfl, ?_⟩) hS ?_
    rotate_left
    · intro V hV
      (try dsimp only at hV)
      go_simp
      (try with_reducible rfl)
    simp only [Act.put]
    refine wpAnyH_ready (rs := [0, 9]) (by kernel_rfl) (by simp) ?_
    refine AllReadyH.cons rfl (fun K hK => ?_) (AllReadyH.cons rfl (fun K hK => ?_) AllReadyH.nil)
    · go_simp
      refine hK.out _ _ hS (fun hS => ?_)
      refine wpAnyH_ready (rs := [9]) (by kernel_rfl) (by simp) (AllReadyH.cons rfl (fun K hK => ?_) AllReadyH.nil)
      go_simp
      refine HCP.out.mono ?_
      rintro e w2 ⟨rfl, HST⟩
      obtain ⟨hc2, hc3, hS2, hS4, a3, n3, c3, w3, HRN, hc4, hf4, hS5, hS6, HFIN⟩ := HST.out
      refine hK.out _ _ hS2 (fun hS => ?_)
      refine wpAnyH_take (i := 10) (v := ?_) rfl (by kernel_rfl) (by kernel_rfl) (by kernel_rfl) (fun _ _ _ h => h) (Or.inl ⟨by rfl, ?_⟩) hS ?_
      rotate_left
      · intro V hV
        (try dsimp only at hV)
        go_simp
        (try with_reducible rfl)
      simp only [Act.put]
      refine wpAnyH_ready (rs := [11]) (by kernel_rfl) (by simp) (AllReadyH.cons rfl (fun K hK => ?_) AllReadyH.nil)
      go_simp
      refine hK.out _ _ hS4 (fun hS => ?_)
      refine wpAnyH_ready (rs := [12]) (by kernel_rfl) (by simp) (AllReadyH.cons rfl (fun K hK => ?_) AllReadyH.nil)
      rw [if_pos (by rfl)]
      refine Lib.wp_append_run _ _ _ 53 53 rfl _ _ rfl rfl _ _ HRN.out ?_
      refine hK.out _ _ hS5 (fun hS => ?_)
      simp only [Act.put]
      refine wpAnyH_ready (rs := [13]) (by kernel_rfl) (by simp) (AllReadyH.cons rfl (fun K hK => ?_) AllReadyH.nil)
      go_simp
      refine hK.out _ _ hS6 (fun hS => wpAnyH_done (by kernel_rfl) ?_ _)
      clear hS hS2 hS4 hS5 hS6 hc2 hc3 hc4 hf4 hK
      gi_wp2
      exact HFIN.out
    · go_simp
      refine HCP.out.mono ?_
      rintro e w2 ⟨rfl, HST⟩
      obtain ⟨hc2, hc3, hS2, hS4, a3, n3, c3, w3, HRN, hc4, hf4, hS5, hS6, HFIN⟩ := HST.out
      refine hK.out _ _ hS2 (fun hS => ?_)
      refine wpAnyH_take (i := 10) (v := ?_) rfl (by kernel_rfl) (by kernel_rfl) (by kernel_rfl) (fun _ _ _ h => h) (Or.inl ⟨by rfl, ?_⟩) hS ?_
      rotate_left
      · intro V hV
        (try dsimp only at hV)
        go_simp
        (try with_reducible rfl)
      simp only [Act.put]
      refine wpAnyH_ready (rs := [0, 11]) (by kernel_rfl) (by simp) ?_
      refine AllReadyH.cons rfl (fun K hK => ?_) (AllReadyH.cons rfl (fun K hK => ?_) AllReadyH.nil)
      · go_simp
        refine hK.out _ _ hS2 (fun hS => ?_)
        refine wpAnyH_ready (rs := [11]) (by kernel_rfl) (by simp) (AllReadyH.cons rfl (fun K hK => ?_) AllReadyH.nil)
        go_simp
        refine hK.out _ _ hS4 (fun hS => ?_)
        refine wpAnyH_ready (rs := [12]) (by kernel_rfl) (by simp) (AllReadyH.cons rfl (fun K hK => ?_) AllReadyH.nil)
        rw [if_pos (by rfl)]
        refine Lib.wp_append_run _ _ _ 53 53 rfl _ _ rfl rfl _ _ HRN.out ?_
        refine hK.out _ _ hS5 (fun hS => ?_)
        simp only [Act.put]
        refine wpAnyH_ready (rs := [13]) (by kernel_rfl) (by simp) (AllReadyH.cons rfl (fun K hK => ?_) AllReadyH.nil)
        go_simp
        refine hK.out _ _ hS6 (fun hS => wpAnyH_done (by kernel_rfl) ?_ _)
        clear hS hS2 hS4 hS5 hS6 hc2 hc3 hc4 hf4 hK
        gi_wp2
        exact HFIN.out
      · go_simp
        refine hK.out _ _ hS4 (fun hS => ?_)
        refine wpAnyH_ready (rs := [0]) (by kernel_rfl) (by simp) (AllReadyH.cons rfl (fun K hK => ?_) AllReadyH.nil)
        go_simp
        refine hK.out _ _ hS4 (fun hS => ?_)
        refine wpAnyH_ready (rs := [12]) (by kernel_rfl) (by simp) (AllReadyH.cons rfl (fun K hK => ?_) AllReadyH.nil)
        rw [if_pos (by rfl)]
        refine Lib.wp_append_run _ _ _ 53 53 rfl _ _ rfl rfl _ _ HRN.out ?_
        refine hK.out _ _ hS5 (fun hS => ?_)
        simp only [Act.put]
        refine wpAnyH_ready (rs := [13]) (by kernel_rfl) (by simp) (AllReadyH.cons rfl (fun K hK => ?_) AllReadyH.nil)
        go_simp
        refine hK.out _ _ hS6 (fun hS => wpAnyH_done (by kernel_rfl) ?_ _)
        clear hS hS2 hS4 hS5 hS6 hc2 hc3 hc4 hf4 hK
        gi_wp2
        exact HFIN.out
  case done =>
    rintro D' ys W hD rfl hI hK
    obtain ⟨a0, c0, cs0, hbx, _⟩ := hI.ex
    have hbc : W.cell? ⟨w.heap.size, 0, none⟩ = some (.slice a0 s.fs.length c0) := by
      have := blk_cell (o := 0) hbx (v := .slice a0 s.fs.attach.length c0) rfl
      simpa using this
    have HB : Hid (Below w.heap.size w (W.putObj D' (.deferred none))) := hI.below.trans (belowK_b (w := w) (Nat.le_refl _) W D' _ _ (by omega) hK rfl rfl)
    clear hbx hI
    gi_wp2
    refine ⟨by simp, .inl ⟨_, _, rfl, run_takeDeferred hK, ?_⟩⟩
    exact ⟨_, results_tmp rfl _ _ _, ⟨_, _, rfl⟩, HB.out⟩
  case stop =>
    rintro D c pre W _ _ h _
    exact h.elim

end Go.Proofs.Ytcceaokldphfgaa
