/- YtcceaokldphfgaaDiskDoesC27 -/
import Derived.Test.YtcceaokldphfgaaDiskDoesC25
import Derived.Test.YtcceaokldphfgaaDiskDoesC22
import Derived.Test.YtcceaokldphfgaaDiskDoesC24
import Derived.Test.YtcceaokldphfgaaDiskDoesC26
import Derived.Test.YtcceaokldphfgaaDiskDoesC07
namespace Go.Proofs.Ytcceaokldphfgaa
open Go.RowKit Go.Shelf

attribute [local go_sem] Oper.semAt_some

set_option maxHeartbeats 4000000 in
set_option maxRecDepth 100000 in
theorem safeT_in {w : World} {role : Role} {D : Nat} {s : DSt} (h : DiskOK w role D s) (n : Nat) (hn : 8 ≤ n) :
    CallsIn Fence.wide n Try.prog 22 #[.pointer (some ⟨D, 0, none⟩)] w fun e w' => (∃ a c cs, e = .returned (.slice a s.fs.length c) ∧ w'.ownsRow w.heap.size 69 2 (.slice a s.fs.length c) s.fs.length cs ∧ Told w.heap.size w' cs (s.fs.map fun f => (f.a.name, f.a.safe))) ∧ Below w.heap.size w w' := by
  have h1 : 1 ≤ n := by omega
  refine callsIn_of_wp_marks Try.func22 rfl trivial ?_ rfl
  simp only [Try.ntmps22, List.size_toArray, List.length_cons, List.length_nil, Nat.reduceAdd, Nat.reduceSub, Array.replicate_succ, Array.replicate_zero, List.push_toArray, List.append_toArray, List.nil_append, List.cons_append]
  gi_wp2_with (first | (refine ⟨trivial, ?_⟩; gi_at_call 51; refine (all_in _ _ _).mono ?_; rintro e w' ⟨rfl, rfl⟩))
  obtain ⟨W0, hW0⟩ : ∃ W0, (w.alloc (.cells #[.slice none 0 0] 53)).alloc (.cells #[.pointer (some ⟨D, 0, none⟩)] 29) = W0 := ⟨_, rfl⟩
  have hsz : W0.heap.size = w.heap.size + 2 := by rw [← hW0]; simp
  have hB0 : Below w.heap.size w W0 := by rw [← hW0]; exact ((Below.refl _ w).alloc (Nat.le_refl _) _).alloc (by simp) _
  have hd0 := h.still hB0
  have hx0 : W0.heap[w.heap.size]? = some (.cells #[.slice none 0 0] 53 (0, 0)) := by
    rw [← hW0]
    exact (Below.heap_alloc _ _ _ (by simp)).trans (World.alloc_heap_new w _)
  have hx1 : W0.cell? ⟨w.heap.size + 1, 0, none⟩ = some (.pointer (some ⟨D, 0, none⟩)) := by
    rw [← hW0]
    have := (cell_new (W := w.alloc (.cells #[.slice none 0 0] 53)) (.pointer (some ⟨D, 0, none⟩)) 29).1
    rwa [World.size_alloc] at this
  rw [hW0]
  clear hW0
  refine wpIn_rangeFunc_ownG rfl h1 (gf := 73) (lb := #[.pointer (some ⟨w.heap.size + 1, 0, none⟩)]) rfl trivial (enters_of Try.func73 (by kernel_rfl) rfl)
    (all_stops (n - 1) (by omega) (w.heap.size + 1) D s.filesV s.fs W0 h.few hx1 hd0.cells.2.2 hd0.rowI) KpR.trans (KpR.putObj (fun g e => (hd0.files.lt g e).2)) (Below.refl _ _) (fun _ => rfl)
    (fun pre W => FilesJ w (fun f => f.a.safe) pre W)
    (fun _ _ _ => False)
    (filesJ_own (by omega))
    (fun _ _ _ _ _ hs _ _ => hs)
    ⟨⟨none, 0, [], hx0, World.ownsRow_nil _ _ _ _, fun j x hx => by simp [colL] at hx⟩, hB0⟩
    (fun x => { tmps := #[.pointer (some ⟨D, 0, none⟩), undef, .slice none 0 0, .pointer (some ⟨w.heap.size, 0, none⟩), ptrV x.1, .pointer (some ⟨D, 0, none⟩), .func (.func 73) #[] #[.pointer (some ⟨w.heap.size + 1, 0, none⟩)], ptrV x.1, undef, undef, undef, undef, undef, undef, undef, undef, undef, undef, undef, undef, undef, undef], defers := [] }) ?assign ?body ?done ?stop
  case assign =>
    intro l x W K hK
    gi_wp2
    exact hK
  case body =>
    rintro l pre x W hI hlt
    obtain ⟨a0, c0, cs0, hbx, hrow, htd⟩ := hI.ex
    have hbel := hI.below
    have hF := h.each x.1 x.2
    have hplt : x.1.p < w.heap.size := h.dom _ _ hF.rp
    have hFW : W.heap[x.1.p]? = _ := (hbel.block _ hplt).trans hF.blk
    have hnm : W.cell? ⟨x.1.p, 0, none⟩ = some (.string x.1.a.name) := blk_cell hFW rfl
    have hcd : W.cell? ⟨x.1.p, 1, none⟩ = some x.1.safeV := blk_cell hFW rfl
    have hod : W.ownsRow 0 5 1 x.1.safeV x.1.a.safe.length (x.1.a.safe.map byteV) := own_same hF.osafe (fun k e _ => hbel.block k (h.dom _ _ (hF.rsafe k e)))
    obtain ⟨av, cv, hv, _⟩ := own_slice hF.osafe
    have hld := hF.lsafe
    have hbc : W.cell? ⟨w.heap.size, 0, none⟩ = some (.slice a0 pre.length c0) := blk_cell hbx rfl
    have hcp := copyBytes_any x.1.safeV x.1.a.safe W.drew (Rd.of_own hod) (by omega)
    rw [hv] at hcd hcp
    have hlen : pre.length < 4096 := by have := h.few; omega
    have HCP : Hid (Calls Try.prog 46 #[.slice av x.1.a.safe.length cv] W.drew fun e w2 => e = .returned (.slice (some ⟨W.heap.size, 0, none⟩) x.1.a.safe.length x.1.a.safe.length) ∧
        Hid (w2.cell? ⟨w.heap.size, 0, none⟩ = some (.slice a0 pre.length c0) ∧ (∀ o, (w2.alloc o).cell? ⟨w.heap.size, 0, none⟩ = some (.slice a0 pre.length c0)) ∧ (w2.cell? ⟨x.1.p, 0, none⟩ = some (.string x.1.a.name) ∧ w2.cell? ⟨x.1.p, 1, none⟩ = some (.slice av x.1.a.safe.length cv)) ∧
          ((w2.alloc (.cells #[.string x.1.a.name, .slice (some ⟨W.heap.size, 0, none⟩) x.1.a.safe.length x.1.a.safe.length] 69)).cell? ⟨x.1.p, 0, none⟩ = some (.string x.1.a.name) ∧ (w2.alloc (.cells #[.string x.1.a.name, .slice (some ⟨W.heap.size, 0, none⟩) x.1.a.safe.length x.1.a.safe.length] 69)).cell? ⟨x.1.p, 1, none⟩ = some (.slice av x.1.a.safe.length cv)) ∧
          ∃ a3 n3 c3 w3, Hid ((Builtin.append_ #[53, 53] 53 #[.slice a0 pre.length c0, .slice (some ⟨w2.heap.size, 0, none⟩) 1 1]).run Try.prog (w2.alloc (.cells #[.string x.1.a.name, .slice (some ⟨W.heap.size, 0, none⟩) x.1.a.safe.length x.1.a.safe.length] 69)) = .ok (.slice a3 n3 c3) w3) ∧
            w3.cell? ⟨w.heap.size, 0, none⟩ = some (.slice a0 pre.length c0) ∧ w3.frozen? ⟨w.heap.size, 0, none⟩ = false ∧ (w3.cell? ⟨x.1.p, 0, none⟩ = some (.string x.1.a.name) ∧ w3.cell? ⟨x.1.p, 1, none⟩ = some (.slice av x.1.a.safe.length cv)) ∧
            ((w3.setCell ⟨w.heap.size, 0, none⟩ (.slice a3 n3 c3)).cell? ⟨x.1.p, 0, none⟩ = some (.string x.1.a.name) ∧ (w3.setCell ⟨w.heap.size, 0, none⟩ (.slice a3 n3 c3)).cell? ⟨x.1.p, 1, none⟩ = some (.slice av x.1.a.safe.length cv)) ∧
            Hid (KeepsFrom W0.heap.size W (w3.setCell ⟨w.heap.size, 0, none⟩ (.slice a3 n3 c3)) ∧ KpR s.filesV s.fs W (w3.setCell ⟨w.heap.size, 0, none⟩ (.slice a3 n3 c3)) ∧ FilesJ w (fun f => f.a.safe) (pre ++ [x]) (w3.setCell ⟨w.heap.size, 0, none⟩ (.slice a3 n3 c3))))) := by
      refine hcp.mono ?_
      rintro e w2 ⟨rfl, hod2, hb2⟩
      have hb2' : Below W.heap.size W w2 := ⟨hb2.os, hb2.tape, hb2.output, hb2.size, hb2.block⟩
      have hbw2 : Below w.heap.size w w2 := hbel.trans (hb2'.mono (by have := hbel.size; omega))
      have hbw2a := fun o => hbw2.alloc hbw2.size o
      have hnw := blk_cell (o := 0) hF.blk (v := .string x.1.a.name) rfl
      have hdw : w.cell? ⟨x.1.p, 1, none⟩ = some (.slice av x.1.a.safe.length cv) := by rw [← hv]; exact blk_cell hF.blk rfl
      have hall : ∀ V, Below w.heap.size w V → V.cell? ⟨x.1.p, 0, none⟩ = some (.string x.1.a.name) ∧ V.cell? ⟨x.1.p, 1, none⟩ = some (.slice av x.1.a.safe.length cv) := fun V hV => ⟨(hV.cell (p := ⟨x.1.p, 0, none⟩) hplt).trans hnw, (hV.cell (p := ⟨x.1.p, 1, none⟩) hplt).trans hdw⟩
      have hbx2 := (hb2'.block _ (Array.getElem?_eq_some_iff.1 hbx).1).trans hbx
      have hc2 : w2.cell? ⟨w.heap.size, 0, none⟩ = some (.slice a0 pre.length c0) := blk_cell hbx2 rfl
      obtain ⟨a3, n3, c3, w3, q1, q2, q3, q4, q5, q6, q7, q8⟩ := filesJ_step (x := x) (col := fun f => f.a.safe) (d2 := .slice (some ⟨W.heap.size, 0, none⟩) x.1.a.safe.length x.1.a.safe.length) h hbx hrow htd hbel hb2' hlen rfl (row_to hod2 hbel.size (fun _ _ _ => rfl))
      exact ⟨rfl, hc2, fun o => (World.grownBy_alloc w2 o none).cell hc2 (by simp), hall w2 hbw2, hall _ (hbw2a _), a3, n3, c3, w3, q1, q2, q3, hall w3 q4, hall _ q5, q6 _, q7, q8⟩
    simp only [ptrV]
    clear hcp hod hF hFW hv hbx hrow htd hbel hI hx0 hx1 hd0 hB0
    gi_wp2
    refine regionIn_held (S := fun V => V.cell? ⟨x.1.p, 0, none⟩ = some (.string x.1.a.name) ∧ V.cell? ⟨x.1.p, 1, none⟩ = some (.slice av x.1.a.safe.length cv)) (by kernel_rfl) (fun ⟨_, _, h⟩ => h) (nd_of (by kernel_rfl)) ⟨hnm, hcd⟩ (fun hS => ?_)
    refine wpAnyH_take (i := 1) (v := ?_) rfl (by kernel_rfl) (by kernel_rfl) (by kernel_rfl) (fun _ _ _ h => h) (Or.inl ⟨by rfl, ?_⟩) hS ?_
    rotate_left
    · intro V hV
      (try dsimp only at hV)
      go_simp
      (try with_reducible rfl)
    simp only [Act.put, List.setIfInBounds_toArray]
    refine wpAnyH_take (i := 2) (v := ?_) rfl (by kernel_rfl) (by kernel_rfl) (by kernel_rfl) (fun _ _ _ h => h) (Or.inl ⟨by rfl, ?_⟩) hS ?_
    rotate_left
    · intro V hV
      (try dsimp only at hV)
      go_simp
      (try with_reducible rfl)
    simp only [Act.put]
    refine wpAnyH_take (i := 3) (v := ?_) rfl (by kernel_rfl) (by kernel_rfl) (by kernel_rfl) (fun _ _ _ h => h) (Or.inl ⟨by rfl, ?_⟩) hS ?_
    rotate_left
    · intro V hV
      (try dsimp only at hV)
      go_simp
      (try with_reducible rfl)
    simp only [Act.put]
    refine wpAnyH_take (i := 4) (v := ?_) rfl (by kernel_rfl) (by kernel_rfl) (by kernel_rfl) (fun _ _ _ h => h) (Or.inl ⟨by rfl, ?_⟩) hS ?_
    rotate_left
    · intro V hV
      (try dsimp only at hV)
      go_simp
      (try with_reducible rfl)
    simp only [Act.put]
    refine wpAnyH_take (i := 5) (v := ?_) rfl (by kernel_rfl) (by kernel_rfl) (by kernel_rfl) (fun _ _ _ h => h) (Or.inl ⟨by rfl, ?_⟩) hS ?_
    rotate_left
    · intro V hV
      (try dsimp only at hV)
      go_simp
      (try with_reducible rfl)
    simp only [Act.put]
    refine wpAnyH_take (i := 6) (v := ?_) rfl (by kernel_rfl) (by kernel_rfl) (by kernel_rfl) (fun _ _ _ h => h) (Or.inl ⟨by rfl, ?_⟩) hS ?_
    rotate_left
    · intro V hV
      (try dsimp only at hV)
      go_simp
      (try with_reducible rfl)
    simp only [Act.put]
    refine wpAnyH_take (i := 7) (v := ?_) rfl (by kernel_rfl) (by kernel_rfl) (by kernel_rfl) (fun _ _ _ h => h) (Or.inl ⟨by rfl, ?_⟩) hS ?_
    rotate_left
    · intro V hV
      (try dsimp only at hV)
      go_simp
      (try with_reducible rfl)
    simp only [Act.put]
    refine wpAnyH_take (i := 8) (v := ?_) rfl (by kernel_rfl) (by kernel_rfl) (by kernel_rfl) (fun _ _ _ h => h) (Or.inl ⟨by rfl, ?_⟩) hS ?_
    rotate_left
    · intro V hV
      (try dsimp only at hV)
      go_simp
      (try with_reducible rfl)
    simp only [Act.put]
    refine wpAnyH_ready (rs := [0, 9]) (by kernel_rfl) (by simp) ?_
    refine AllReadyH.cons rfl (fun K hK => ?_) (AllReadyH.cons rfl (fun K hK => ?_) AllReadyH.nil)
    · go_simp
      refine hK.out _ _ hS (fun hS => ?_)
      refine wpAnyH_ready (rs := [9]) (by kernel_rfl) (by simp) (AllReadyH.cons rfl (fun K hK => ?_) AllReadyH.nil)
      go_simp
      refine HCP.out.mono ?_
      rintro e w2 ⟨rfl, HST⟩
      obtain ⟨hc2, hc3, hS2, hS4, a3, n3, c3, w3, HRN, hc4, hf4, hS5, hS6, HFIN⟩ := HST.out
      refine hK.out _ _ hS2 (fun hS => ?_)
      refine wpAnyH_take (i := 10) (v := ?_) rfl (by kernel_rfl) (by kernel_rfl) (by kernel_rfl) (fun _ _ _ h => h) (Or.inl ⟨by rfl, ?_⟩) hS ?_
      rotate_left
      · intro V hV
        (try dsimp only at hV)
        go_simp
        (try with_reducible rfl)
      simp only [Act.put]
      refine wpAnyH_ready (rs := [11]) (by kernel_rfl) (by simp) (AllReadyH.cons rfl (fun K hK => ?_) AllReadyH.nil)
      go_simp
      refine hK.out _ _ hS4 (fun hS => ?_)
      refine wpAnyH_ready (rs := [12]) (by kernel_rfl) (by simp) (AllReadyH.cons rfl (fun K hK => ?_) AllReadyH.nil)
      rw [if_pos (by rfl)]
      refine Lib.wp_append_run _ _ _ 53 53 rfl _ _ rfl rfl _ _ HRN.out ?_
      refine hK.out _ _ hS5 (fun hS => ?_)
      simp only [Act.put]
      refine wpAnyH_ready (rs := [13]) (by kernel_rfl) (by simp) (AllReadyH.cons rfl (fun K hK => ?_) AllReadyH.nil)
      go_simp
      refine hK.out _ _ hS6 (fun hS => wpAnyH_done (by kernel_rfl) ?_ _)
      clear hS hS2 hS4 hS5 hS6 hc2 hc3 hc4 hf4 hK
      gi_wp2
      exact HFIN.out
    · go_simp
      refine HCP.out.mono ?_
      rintro e w2 ⟨rfl, HST⟩
      obtain ⟨hc2, hc3, hS2, hS4, a3, n3, c3, w3, HRN, hc4, hf4, hS5, hS6, HFIN⟩ := HST.out
      refine hK.out _ _ hS2 (fun hS => ?_)
      refine wpAnyH_take (i := 10) (v := ?_) rfl (by kernel_rfl) (by kernel_rfl) (by kernel_rfl) (fun _ _ _ h => h) (Or.inl ⟨by rfl, ?_⟩) hS ?_
      rotate_left
      · intro V hV
        (try dsimp only at hV)
        go_simp
        (try with_reducible rfl)
      simp only [Act.put]
      refine wpAnyH_ready (rs := [0, 11]) (by kernel_rfl) (by simp) ?_
      refine AllReadyH.cons rfl (fun K hK => ?_) (AllReadyH.cons rfl (fun K hK => ?_) AllReadyH.nil)
      · go_simp
        refine hK.out _ _ hS2 (fun hS => ?_)
        refine wpAnyH_ready (rs := [11]) (by kernel_rfl) (by simp) (AllReadyH.cons rfl (fun K hK => ?_) AllReadyH.nil)
        go_simp
        refine hK.out _ _ hS4 (fun hS => ?_)
        refine wpAnyH_ready (rs := [12]) (by kernel_rfl) (by simp) (AllReadyH.cons rfl (fun K hK => ?_) AllReadyH.nil)
        rw [if_pos (by rfl)]
        refine Lib.wp_append_run _ _ _ 53 53 rfl _ _ rfl rfl _ _ HRN.out ?_
        refine hK.out _ _ hS5 (fun hS => ?_)
        simp only [Act.put]
        refine wpAnyH_ready (rs := [13]) (by kernel_rfl) (by simp) (AllReadyH.cons rfl (fun K hK => ?_) AllReadyH.nil)
        go_simp
        refine hK.out _ _ hS6 (fun hS => wpAnyH_done (by kernel_rfl) ?_ _)
        clear hS hS2 hS4 hS5 hS6 hc2 hc3 hc4 hf4 hK
        gi_wp2
        exact HFIN.out
      · go_simp
        refine hK.out _ _ hS4 (fun hS => ?_)
        refine wpAnyH_ready (rs := [0]) (by kernel_rfl) (by simp) (AllReadyH.cons rfl (fun K hK => ?_) AllReadyH.nil)
        go_simp
        refine hK.out _ _ hS4 (fun hS => ?_)
        refine wpAnyH_ready (rs := [12]) (by kernel_rfl) (by simp) (AllReadyH.cons rfl (fun K hK => ?_) AllReadyH.nil)
        rw [if_pos (by rfl)]
        refine Lib.wp_append_run _ _ _ 53 53 rfl _ _ rfl rfl _ _ HRN.out ?_
        refine hK.out _ _ hS5 (fun hS => ?_)
        simp only [Act.put]
        refine wpAnyH_ready (rs := [13]) (by kernel_rfl) (by simp) (AllReadyH.cons rfl (fun K hK => ?_) AllReadyH.nil)
        go_simp
        refine hK.out _ _ hS6 (fun hS => wpAnyH_done (by kernel_rfl) ?_ _)
        clear hS hS2 hS4 hS5 hS6 hc2 hc3 hc4 hf4 hK
        gi_wp2
        exact HFIN.out
  case done =>
    rintro D' ys W hD rfl hI hK
    obtain ⟨a0, c0, cs0, hbx, hrow, htd⟩ := hI.ex
    have HTD : Hid ((W.putObj D' (.deferred none)).ownsRow w.heap.size 69 2 (.slice a0 s.fs.length c0) s.fs.length cs0 ∧ Told w.heap.size (W.putObj D' (.deferred none)) cs0 (s.fs.map fun f => (f.a.name, f.a.safe))) := by
      have hcol : colL (fun f => f.a.safe) s.fs.attach = s.fs.map fun f => (f.a.name, f.a.safe) := by
        unfold colL
        conv => rhs; rw [← List.attach_map_subtype_val s.fs]
        rw [List.map_map]
        rfl
      have hkp : ∀ (k : Nat) (cs : Array Value) (t : TypeId), W.heap[k]? = some (Obj.cells cs t (0, 0)) → (W.putObj D' (.deferred none)).heap[k]? = W.heap[k]? := fun k cs t hc => (grownBy_putObj' W D' _).block k (Array.getElem?_eq_some_iff.1 hc).1 (fun e => by
        cases e
        rw [hc] at hK
        cases hK)
      simp only [List.length_attach] at hrow
      rw [hcol] at htd
      refine ⟨?_, htd.same fun k cur _ hc => hkp k _ _ hc⟩
      obtain ⟨hl, h0 | ⟨g, cap, cur, e, hbg, hg, hr⟩⟩ := hrow
      · exact ⟨hl, .inl h0⟩
      · exact ⟨hl, .inr ⟨g, cap, cur, e, hbg, (hkp g _ _ hg).trans hg, hr⟩⟩
    have hbc : W.cell? ⟨w.heap.size, 0, none⟩ = some (.slice a0 s.fs.length c0) := by
      have := blk_cell (o := 0) hbx (v := .slice a0 s.fs.attach.length c0) rfl
      simpa using this
    have HB : Hid (Below w.heap.size w (W.putObj D' (.deferred none))) := hI.below.trans (belowK_b (w := w) (Nat.le_refl _) W D' _ _ (by omega) hK rfl rfl)
    clear hbx hI hrow htd
    gi_wp2
    refine ⟨by simp, .inl ⟨_, _, rfl, run_takeDeferred hK, ?_⟩⟩
    exact ⟨_, results_tmp rfl _ _ _, ⟨_, _, _, rfl, HTD.out.1, HTD.out.2⟩, HB.out⟩
  case stop =>
    rintro D c pre W _ _ h _
    exact h.elim

end Go.Proofs.Ytcceaokldphfgaa

namespace Go.Proofs.Ytcceaokldphfgaa
open Go.RowKit Go.Shelf

/-- Files that are told. -/
def FilesAt (w : World) (B : Nat) (v : Value) (l : List (ByteArray × List UInt8)) : Prop := ∃ cs, w.ownsRow B 69 2 v l.length cs ∧ Told B w cs l

theorem FilesAt.to {w w' : World} {B : Nat} {v : Value} {l : List (ByteArray × List UInt8)} (h : FilesAt w B v l) (hs : ∀ k, B ≤ k → k < w.heap.size → w'.heap[k]? = w.heap[k]?) : FilesAt w' B v l := by
  obtain ⟨cs, h1, h2⟩ := h
  refine ⟨cs, ?_, h2.same fun k cur hk hc => hs k hk (Array.getElem?_eq_some_iff.1 hc).1⟩
  obtain ⟨hl, h0 | ⟨g, cap, cur, rfl, hb, hg, hr⟩⟩ := h1
  · exact ⟨hl, .inl h0⟩
  · exact ⟨hl, .inr ⟨g, cap, cur, rfl, hb, (hs g hb (Array.getElem?_eq_some_iff.1 hg).1).trans hg, hr⟩⟩

theorem FilesAt.later {w w' : World} {B : Nat} {v : Value} {l : List (ByteArray × List UInt8)} (h : FilesAt w B v l) (hb : Below w.heap.size w w') : FilesAt w' B v l := h.to fun k _ hk => hb.block k hk

theorem FilesAt.shape {w : World} {B : Nat} {v : Value} {l : List (ByteArray × List UInt8)} (h : FilesAt w B v l) : ∃ a c, v = .slice a l.length c ∧ l.length ≤ 9223372036854775807 := by
  obtain ⟨cs, h1, _⟩ := h
  rcases h1.2 with ⟨rfl, h0⟩ | ⟨g, cap, cur, rfl, hb, hg, hn, hm, _⟩
  · exact ⟨none, 0, by rw [h0], by omega⟩
  · exact ⟨_, _, rfl, by unfold maxLen at hm; omega⟩

theorem FilesAt.at_ {w : World} {B : Nat} {a : Option Addr} {c : Nat} {l : List (ByteArray × List UInt8)} (h : FilesAt w B (.slice a l.length c) l) {j : Nat} (hj : j < l.length) :
    ∃ g q m k, a = some ⟨g, 0, none⟩ ∧ w.cell? ⟨g, j * 2, none⟩ = some (.string l[j].1) ∧ w.cell? ⟨g, j * 2 + 1, none⟩ = some (.slice q m k) ∧ m = l[j].2.length ∧ ∀ w', Below w.heap.size w w' → (convert 33 9 (.slice q m k)).run Try.prog w' = .ok (.string ⟨l[j].2.toArray⟩) w' := by
  obtain ⟨cs, h1, h2⟩ := h
  obtain ⟨bv, e1, e2, e3⟩ := h2 j l[j] (by simp [hj])
  rcases h1.2 with ⟨e0, h0⟩ | ⟨g, cap, cur, e0, hb, hg, hn, hm, hz, ht⟩
  · omega
  · simp only [Value.slice.injEq] at e0
    obtain ⟨q, k, rfl⟩ := own_shape e3
    have hcell : ∀ (i : Nat) (u : Value), cs[i]? = some u → w.cell? ⟨g, i, none⟩ = some u := fun i u hu => by
      refine blk_cell hg ?_
      rw [← ht, List.getElem?_take] at hu
      split at hu
      · simpa using hu
      · cases hu
    refine ⟨g, q, _, k, e0.1, hcell _ _ (by rw [Nat.mul_comm]; exact e1), hcell _ _ (by rw [Nat.mul_comm]; exact e2), rfl, fun w' hb' => conv_out (own_below e3 hb')⟩

set_option maxHeartbeats 1000000 in
set_option maxRecDepth 100000 in
theorem same_true {w : World} {B B' : Nat} {v u : Value} {l : List (ByteArray × List UInt8)} (h : FilesAt w B v l) (h' : FilesAt w B' u l) :
    Calls Try.prog 28 #[v, u] w fun r w' => r = .returned (.bool true) ∧ Below w.heap.size w w' := by
  obtain ⟨a, c, rfl, hm⟩ := h.shape
  obtain ⟨b, d, rfl, _⟩ := h'.shape
  have H := hideP h
  have H' := hideP h'
  have hnn : ((l.length : Int) != (l.length : Int)) = false := by simp
  clear h h'
  go_enter Try.func28, Try.ntmps28
  go_wp2
  go_loopw [5, 13] (fun _ i wr => ∃ j : Nat, j ≤ l.length ∧ i = .int .i64 j ∧ Hid (Below w.heap.size w wr)) (fun _ i _ => l.length - (intOf i).toNat)
  case atStart => exact ⟨0, Nat.zero_le _, rfl, Below.refl _ _⟩
  case round =>
    obtain ⟨j, hj, rfl, hb⟩ := hrel
    by_cases hjl : j < l.length
    · obtain ⟨g, q, m, k, rfl, m1, m2, hm1, m3⟩ := (H.out.later hb.out).at_ hjl
      obtain ⟨g', q', m', k', rfl, n1, n2, hm2, n3⟩ := (H'.out.later hb.out).at_ hjl
      have c1 := m3 wr.drew (Below.refl _ _).drew
      have c2 := n3 wr.drew (Below.refl _ _).drew
      have hse1 : (l[j].1.toList == l[j].1.toList) = true := by simp
      have hse2 : ((⟨l[j].2.toArray⟩ : ByteArray).toList == (⟨l[j].2.toArray⟩ : ByteArray).toList) = true := by simp
      have HBD : Hid (Below w.heap.size w wr.drew) := hb.out.drew
      clear m3 n3 hm1 hm2 hb
      go_wp2
      go_region
      go_wp2
      go_roundw
      case rel => exact ⟨j + 1, by omega, by go_num, HBD⟩
      case measure => simp [intOf]; omega
    · have hjl' : j = l.length := by omega
      subst hjl'
      go_wp2
      go_ret
      exact ⟨rfl, hb.out⟩

end Go.Proofs.Ytcceaokldphfgaa

namespace Go.Proofs.Ytcceaokldphfgaa
open Go.RowKit Go.Shelf

/-- A disk that lives, and whose plan has no crash. -/
structure Quiet (K : List Int) (R : Int) (a : ASt) : Prop where
  live : a.dead = false
  crash : a.crash = 0
  keep : a.keep = K
  room : a.room = R
  ops : 0 ≤ a.ops

theorem Quiet.fs {K : List Int} {R : Int} {a : ASt} (h : Quiet K R a) (fs : List AFile) : Quiet K R { a with fs := fs } := ⟨h.live, h.crash, h.keep, h.room, h.ops⟩

/-- What is told of all files. -/
def dataL (fs : List AFile) : List (ByteArray × List UInt8) := fs.map fun f => (f.name, f.data)

def safeL (fs : List AFile) : List (ByteArray × List UInt8) := fs.map fun f => (f.name, f.safe)

theorem files_D {w : World} {role : Role} {D : Nat} {s : DSt} (h : DiskOK w role D s) (hd : s.dead = false) :
    Calls Try.prog 21 #[.pointer (some ⟨D, 0, none⟩)] w fun r w' => ∃ a n c, r = .returned (.slice a n c) ∧ Hid (FilesAt w' w.heap.size (.slice a n c) (dataL (abs s).fs)) ∧ Below w.heap.size w w' := by
  refine (callsIn_wide.1 (filesT_in h hd 10 (by omega))).mono ?_
  rintro r w' ⟨⟨a, c, cs, rfl, h1, h2⟩, hb⟩
  have e : dataL (abs s).fs = s.fs.map fun f => (f.a.name, f.a.data) := by simp [dataL, abs]
  refine ⟨a, _, c, rfl, ⟨cs, by rw [e, List.length_map]; exact h1, by rw [e]; exact h2⟩, hb⟩

theorem safe_D {w : World} {role : Role} {D : Nat} {s : DSt} (h : DiskOK w role D s) :
    Calls Try.prog 22 #[.pointer (some ⟨D, 0, none⟩)] w fun r w' => ∃ a n c, r = .returned (.slice a n c) ∧ Hid (FilesAt w' w.heap.size (.slice a n c) (safeL (abs s).fs)) ∧ Below w.heap.size w w' := by
  refine (callsIn_wide.1 (safeT_in h 10 (by omega))).mono ?_
  rintro r w' ⟨⟨a, c, cs, rfl, h1, h2⟩, hb⟩
  have e : safeL (abs s).fs = s.fs.map fun f => (f.a.name, f.a.safe) := by simp [safeL, abs]
  refine ⟨a, _, c, rfl, ⟨cs, by rw [e, List.length_map]; exact h1, by rw [e]; exact h2⟩, hb⟩

theorem ops_D {w : World} {role : Role} {D : Nat} {s : DSt} (h : DiskOK w role D s) : Calls Try.prog 16 #[.pointer (some ⟨D, 0, none⟩)] w fun r w' => r = .returned (.int .i64 (abs s).ops) ∧ w = w' :=
  (ops_any D s.ops w (blk_cell h.blk rfl)).mono fun _ _ ⟨h1, h2⟩ => ⟨h1, h2.symm⟩

/-- A disk that was made since w, with something that all operations keep. -/
def LivesZ (Z : ASt → Prop) (w wr : World) (D : Nat) (n : Nat) : Prop := ∃ role s, DiskOK wr role D s ∧ Stp noRole role w wr ∧ Coh (abs s) ∧ s.ops ≤ n ∧ Z (abs s)

theorem LivesZ.still {Z : ASt → Prop} {w wr wr' : World} {D n : Nat} (h : LivesZ Z w wr D n) (hb : Below wr.heap.size wr wr') : LivesZ Z w wr' D n := by
  obtain ⟨role, s, h1, h2, h3, h4⟩ := h
  exact ⟨role, s, h1.still hb, h2.trans (Stp.still hb), h3, h4⟩

theorem LivesZ.more {Z : ASt → Prop} {w wr : World} {D n m : Nat} (h : LivesZ Z w wr D n) (hm : n ≤ m) : LivesZ Z w wr D m := by
  obtain ⟨role, s, h1, h2, h3, h4, h5⟩ := h
  exact ⟨role, s, h1, h2, h3, by omega, h5⟩

theorem LivesZ.does {Z : ASt → Prop} (hZ : ∀ a o, Z a → Coh a → o.kind ≠ 7 → Z (doA a o).1) {w wr : World} {D n : Nat} (h : LivesZ Z w wr D n) (hn : n ≤ 1000) {a a1 a2 a3 : Option Addr} {c c1 c2 c3 : Nat} {o : AOp} (hop : OpAt wr a a1 a2 a3 c c1 c2 c3 o) (h7 : o.kind ≠ 7) :
    Calls Try.prog 14 #[.pointer (some ⟨D, 0, none⟩), opV a a1 a2 a3 c c1 c2 c3 o] wr fun r w' => (∃ e, r = .returned (.int .i64 e)) ∧ Hid (LivesZ Z w w' D (n + 1)) := by
  obtain ⟨role, s, h1, h2, h3, h4, h8⟩ := h
  refine (do_D h1 (by omega) h3.dead a a1 a2 a3 c c1 c2 c3 o hop).mono ?_
  rintro r w' ⟨rfl, role', s', g1, g2, g3⟩
  refine ⟨⟨_, rfl⟩, role', s', g1, h2.trans g2, by rw [g3]; exact do_coh h3 o, ?_, by rw [g3]; exact hZ _ o h8 h3 h7⟩
  have := (do_ops (a := abs s) o h7).2
  rw [← g3] at this
  have h5 : (abs s').ops = s'.ops := rfl
  have h6 : (abs s).ops = s.ops := rfl
  omega

/-- The j-th operation, where the loop is. -/
theorem OpsAt.at_ {w : World} {av : Option Addr} {cv : Nat} {L : List AOp} (h : OpsAt w (.slice av L.length cv) L) {j : Nat} (hj : j < L.length) : ∃ blk off, av = some ⟨blk, off, none⟩ ∧ ∃ a a1 a2 a3 c c1 c2 c3, OpAt w a a1 a2 a3 c c1 c2 c3 L[j] ∧ ∀ (i : Nat) (u : Value), (opC a a1 a2 a3 c c1 c2 c3 L[j])[i]? = some u → w.cell? ⟨blk, off + j * 11 + i, none⟩ = some u := by
  rcases h with ⟨h0, _⟩ | ⟨blk, off, cap, h1, _, _, h4⟩
  · rw [h0] at hj; simp at hj
  · simp only [Value.slice.injEq] at h1
    exact ⟨blk, off, h1.1, h4 j L[j] (by simp [hj])⟩

theorem OpsAt.shape {w : World} {v : Value} {L : List AOp} (h : OpsAt w v L) : ∃ a c, v = .slice a L.length c := by
  rcases h with ⟨h0, a, c, h⟩ | ⟨blk, off, cap, h, _⟩
  · exact ⟨a, c, by rw [h, h0]; rfl⟩
  · exact ⟨_, _, h⟩

end Go.Proofs.Ytcceaokldphfgaa

namespace Go.Proofs.Ytcceaokldphfgaa
open Go.RowKit Go.Shelf

/-- The roles of new memory alone. -/
structure NewR (w W : World) (role : Role) : Prop where
  lo : ∀ k q, role k = some q → w.heap.size ≤ k
  hi : ∀ k q, role k = some q → k < W.heap.size

end Go.Proofs.Ytcceaokldphfgaa

namespace Go.Proofs.Ytcceaokldphfgaa
open Go.RowKit Go.Shelf

/-- What an operation does at the wide fence is what it does elsewhere. -/
theorem upon_wide {P : Program} {o : Oper} {a : Act} {next next' : Act → World → Prop} {Q : Exit → Act → World → Prop} {n : Nat} (hn : ∀ a w, next a w → next' a w) (r : Result Next) (h : o.upon P a next Q r) :
    o.uponIn Fence.wide n P a next' Q r := by
  cases r with
  | ok x w' =>
    cases x with
    | value v => exact hn _ _ h
    | skip => exact hn _ _ h
    | defer d => exact hn _ _ h
    | enter f args =>
      refine ⟨fun e => by simp [Fence.wide] at e, callsIn_wide.2 (Calls.mono h ?_)⟩
      intro e w'' he
      cases e with
      | returned v => exact hn _ _ he
      | panicked chain => exact he
      | outgrown => exact he
    | row row args =>
      refine ⟨fun e => by simp [Fence.wide] at e, fun c cs _ => ?_⟩
      obtain ⟨v, w'', hv, hs⟩ := h c cs
      exact ⟨v, w'', hn _ _ hv, stepsIn_wide.2 hs⟩
    | _ => exact absurd h (by simp [Oper.upon])
  | halt hh w' =>
    cases hh with
    | panic v => exact h
    | _ => exact absurd h (by simp [Oper.upon])

theorem any_wide {P : Program} {md : Region.Mode} {ops : Array Oper} {Q : Exit → Act → World → Prop} {n : Nat} (hlo : ¬ LetsOut Q) :
    ∀ (fuel : Nat) (listed : Array Bool) (a : Act) (w : World), wpAny P md ops Q fuel listed a w → wpAnyIn Fence.wide n P md ops Q fuel listed a w
  | 0, _, _, _, h => h
  | fuel + 1, listed, a, w, h => by
    refine ⟨h.1, fun i hi => ?_⟩
    have h2 := h.2 i hi
    unfold wpOp at h2
    unfold wpOpIn
    split at h2
    · rename_i e
      rw [e]
      exact any_wide hlo fuel _ a w h2
    · rename_i o e
      rw [e]
      simp only
      split at h2
      · rename_i hw
        rw [if_pos hw]
        refine ⟨fun _ _ => trivial, ?_⟩
        rcases h2 with h2 | h2
        · exact upon_wide (fun a w h => any_wide hlo fuel _ a w h) _ h2
        · exact absurd h2.2 hlo
      · rename_i hw
        rw [if_neg hw]
        exact ⟨fun _ _ => trivial, any_wide hlo fuel _ _ w h2⟩

/-- Q, but only where the end is a normal one. -/
def OnlyN (Q : Exit → Act → World → Prop) : Exit → Act → World → Prop
  | .normal, a, w => Q .normal a w
  | _, _, _ => False

theorem OnlyN.imp {Q : Exit → Act → World → Prop} : ∀ (e : Exit) (a : Act) (w : World), OnlyN Q e a w → Q e a w := fun e a w h => by
  cases e <;> first | exact h | exact (h : False).elim

/-- A region that draws its order, ahead of a range over a function: by what is held. -/
theorem regionIn_wide {P : Program} {id : Nat} {ops : Array Oper} {Q : Exit → Act → World → Prop} {S : World → Prop} {n : Nat} {a : Act} {w : World} (hm : P.follows .mixedOrders = true) (hS : S w.drew)
    (h : S w.drew → wpAnyH P .any ops (OnlyN Q) S ops.size (Array.replicate ops.size false) a w.drew) : (Code.region id ops true).wpIn Fence.wide n P Q a w :=
  Code.wpIn_mono OnlyN.imp (wpIn_region_any hm (any_wide (fun ⟨_, _, h⟩ => h) _ _ _ _ (wpAny_of_held _ _ _ _ (h hS))))

end Go.Proofs.Ytcceaokldphfgaa
