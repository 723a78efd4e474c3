/- YtcceaokldphfgaaDiskDoesC26 -/
import Derived.Test.YtcceaokldphfgaaDiskDoesC25
import Derived.Test.YtcceaokldphfgaaDiskDoesC22
namespace Go.Proofs.Ytcceaokldphfgaa
open Go.RowKit Go.Shelf

attribute [local go_sem] Oper.semAt_some

set_option maxHeartbeats 4000000 in
set_option maxRecDepth 100000 in
theorem filesT_in {w : World} {role : Role} {D : Nat} {s : DSt} (h : DiskOK w role D s) (hdd : s.dead = false) (n : Nat) (hn : 8 ≤ n) :
    CallsIn Fence.wide n Try.prog 21 #[.pointer (some ⟨D, 0, none⟩)] w fun e w' => (∃ a c cs, e = .returned (.slice a s.fs.length c) ∧ w'.ownsRow w.heap.size 69 2 (.slice a s.fs.length c) s.fs.length cs ∧ Told w.heap.size w' cs (s.fs.map fun f => (f.a.name, f.a.data))) ∧ Below w.heap.size w w' := by
  have h1 : 1 ≤ n := by omega
  have hdead := dDead h false hdd
  refine callsIn_of_wp_marks Try.func21 rfl trivial ?_ rfl
  simp only [Try.ntmps21, List.size_toArray, List.length_cons, List.length_nil, Nat.reduceAdd, Nat.reduceSub, Array.replicate_succ, Array.replicate_zero, List.push_toArray, List.append_toArray, List.nil_append, List.cons_append]
  gi_wp2_with (first | (refine ⟨trivial, ?_⟩; gi_at_call 20; refine (callsIn_wide.2 hdead).mono ?_; rintro e w' ⟨rfl, rfl⟩) | (refine ⟨trivial, ?_⟩; gi_at_call 51; refine (all_in _ _ _).mono ?_; rintro e w' ⟨rfl, rfl⟩))
  obtain ⟨W0, hW0⟩ : ∃ W0, (w.alloc (.cells #[.slice none 0 0] 53)).alloc (.cells #[.pointer (some ⟨D, 0, none⟩)] 29) = W0 := ⟨_, rfl⟩
  have hsz : W0.heap.size = w.heap.size + 2 := by rw [← hW0]; simp
  have hB0 : Below w.heap.size w W0 := by rw [← hW0]; exact ((Below.refl _ w).alloc (Nat.le_refl _) _).alloc (by simp) _
  have hd0 := h.still hB0
  have hx0 : W0.heap[w.heap.size]? = some (.cells #[.slice none 0 0] 53 (0, 0)) := by
    rw [← hW0]
    exact (Below.heap_alloc _ _ _ (by simp)).trans (World.alloc_heap_new w _)
  have hx1 : W0.cell? ⟨w.heap.size + 1, 0, none⟩ = some (.pointer (some ⟨D, 0, none⟩)) := by
    rw [← hW0]
    have := (cell_new (W := w.alloc (.cells #[.slice none 0 0] 53)) (.pointer (some ⟨D, 0, none⟩)) 29).1
    rwa [World.size_alloc] at this
  rw [hW0]
  clear hW0
  refine wpIn_rangeFunc_ownG rfl h1 (gf := 73) (lb := #[.pointer (some ⟨w.heap.size + 1, 0, none⟩)]) rfl trivial (enters_of Try.func73 (by kernel_rfl) rfl)
    (all_stops (n - 1) (by omega) (w.heap.size + 1) D s.filesV s.fs W0 h.few hx1 hd0.cells.2.2 hd0.rowI) KpR.trans (KpR.putObj (fun g e => (hd0.files.lt g e).2)) (Below.refl _ _) (fun _ => rfl)
    (fun pre W => FilesJ w (fun f => f.a.data) pre W)
    (fun _ _ _ => False)
    (filesJ_own (by omega))
    (fun _ _ _ _ _ hs _ _ => hs)
    ⟨⟨none, 0, [], hx0, World.ownsRow_nil _ _ _ _, fun j x hx => by simp [colL] at hx⟩, hB0⟩
    (fun x => { tmps := #[.pointer (some ⟨D, 0, none⟩), undef, .slice none 0 0, .pointer (some ⟨w.heap.size, 0, none⟩), ptrV x.1, .pointer (some ⟨D, 0, none⟩), .bool false, .pointer (some ⟨D, 0, none⟩), .func (.func 73) #[] #[.pointer (some ⟨w.heap.size + 1, 0, none⟩)], ptrV x.1, undef, undef, undef, undef, undef, undef, undef, undef, undef, undef, undef, undef, undef, undef], defers := [] }) ?assign ?body ?done ?stop
  case assign =>
    intro l x W K hK
    gi_wp2
    exact hK
  case body =>
    rintro l pre x W hI hlt
    obtain ⟨a0, c0, cs0, hbx, hrow, htd⟩ := hI.ex
    have hbel := hI.below
    have hF := h.each x.1 x.2
    have hplt : x.1.p < w.heap.size := h.dom _ _ hF.rp
    have hFW : W.heap[x.1.p]? = _ := (hbel.block _ hplt).trans hF.blk
    have hnm : W.cell? ⟨x.1.p, 0, none⟩ = some (.string x.1.a.name) := blk_cell hFW rfl
    have hcd : W.cell? ⟨x.1.p, 3, none⟩ = some x.1.dataV := blk_cell hFW rfl
    have hod : W.ownsRow 0 5 1 x.1.dataV x.1.a.data.length (x.1.a.data.map byteV) := own_same hF.odata (fun k e _ => hbel.block k (h.dom _ _ (hF.rdata k e)))
    obtain ⟨av, cv, hv, _⟩ := own_slice hF.odata
    have hld := hF.ldata
    have hbc : W.cell? ⟨w.heap.size, 0, none⟩ = some (.slice a0 pre.length c0) := blk_cell hbx rfl
    have hcp := copyBytes_any x.1.dataV x.1.a.data W.drew (Rd.of_own hod) (by omega)
    rw [hv] at hcd hcp
    have hlen : pre.length < 4096 := by have := h.few; omega
    have HCP : Hid (Calls Try.prog 46 #[.slice av x.1.a.data.length cv] W.drew fun e w2 => e = .returned (.slice (some ⟨W.heap.size, 0, none⟩) x.1.a.data.length x.1.a.data.length) ∧
        Hid (w2.cell? ⟨w.heap.size, 0, none⟩ = some (.slice a0 pre.length c0) ∧ (∀ o, (w2.alloc o).cell? ⟨w.heap.size, 0, none⟩ = some (.slice a0 pre.length c0)) ∧ (w2.cell? ⟨x.1.p, 0, none⟩ = some (.string x.1.a.name) ∧ w2.cell? ⟨x.1.p, 3, none⟩ = some (.slice av x.1.a.data.length cv)) ∧
          ((w2.alloc (.cells #[.string x.1.a.name, .slice (some ⟨W.heap.size, 0, none⟩) x.1.a.data.length x.1.a.data.length] 69)).cell? ⟨x.1.p, 0, none⟩ = some (.string x.1.a.name) ∧ (w2.alloc (.cells #[.string x.1.a.name, .slice (some ⟨W.heap.size, 0, none⟩) x.1.a.data.length x.1.a.data.length] 69)).cell? ⟨x.1.p, 3, none⟩ = some (.slice av x.1.a.data.length cv)) ∧
          ∃ a3 n3 c3 w3, Hid ((Builtin.append_ #[53, 53] 53 #[.slice a0 pre.length c0, .slice (some ⟨w2.heap.size, 0, none⟩) 1 1]).run Try.prog (w2.alloc (.cells #[.string x.1.a.name, .slice (some ⟨W.heap.size, 0, none⟩) x.1.a.data.length x.1.a.data.length] 69)) = .ok (.slice a3 n3 c3) w3) ∧
            w3.cell? ⟨w.heap.size, 0, none⟩ = some (.slice a0 pre.length c0) ∧ w3.frozen? ⟨w.heap.size, 0, none⟩ = false ∧ (w3.cell? ⟨x.1.p, 0, none⟩ = some (.string x.1.a.name) ∧ w3.cell? ⟨x.1.p, 3, none⟩ = some (.slice av x.1.a.data.length cv)) ∧
            ((w3.setCell ⟨w.heap.size, 0, none⟩ (.slice a3 n3 c3)).cell? ⟨x.1.p, 0, none⟩ = some (.string x.1.a.name) ∧ (w3.setCell ⟨w.heap.size, 0, none⟩ (.slice a3 n3 c3)).cell? ⟨x.1.p, 3, none⟩ = some (.slice av x.1.a.data.length cv)) ∧
            Hid (KeepsFrom W0.heap.size W (w3.setCell ⟨w.heap.size, 0, none⟩ (.slice a3 n3 c3)) ∧ KpR s.filesV s.fs W (w3.setCell ⟨w.heap.size, 0, none⟩ (.slice a3 n3 c3)) ∧ FilesJ w (fun f => f.a.data) (pre ++ [x]) (w3.setCell ⟨w.heap.size, 0, none⟩ (.slice a3 n3 c3))))) := by
      refine hcp.mono ?_
      rintro e w2 ⟨rfl, hod2, hb2⟩
      have hb2' : Below W.heap.size W w2 := ⟨hb2.os, hb2.tape, hb2.output, hb2.size, hb2.block⟩
      have hbw2 : Below w.heap.size w w2 := hbel.trans (hb2'.mono (by have := hbel.size; omega))
      have hbw2a := fun o => hbw2.alloc hbw2.size o
      have hnw := blk_cell (o := 0) hF.blk (v := .string x.1.a.name) rfl
      have hdw : w.cell? ⟨x.1.p, 3, none⟩ = some (.slice av x.1.a.data.length cv) := by rw [← hv]; exact blk_cell hF.blk rfl
      have hall : ∀ V, Below w.heap.size w V → V.cell? ⟨x.1.p, 0, none⟩ = some (.string x.1.a.name) ∧ V.cell? ⟨x.1.p, 3, none⟩ = some (.slice av x.1.a.data.length cv) := fun V hV => ⟨(hV.cell (p := ⟨x.1.p, 0, none⟩) hplt).trans hnw, (hV.cell (p := ⟨x.1.p, 3, none⟩) hplt).trans hdw⟩
      have hbx2 := (hb2'.block _ (Array.getElem?_eq_some_iff.1 hbx).1).trans hbx
      have hc2 : w2.cell? ⟨w.heap.size, 0, none⟩ = some (.slice a0 pre.length c0) := blk_cell hbx2 rfl
      obtain ⟨a3, n3, c3, w3, q1, q2, q3, q4, q5, q6, q7, q8⟩ := filesJ_step (x := x) (col := fun f => f.a.data) (d2 := .slice (some ⟨W.heap.size, 0, none⟩) x.1.a.data.length x.1.a.data.length) h hbx hrow htd hbel hb2' hlen rfl (row_to hod2 hbel.size (fun _ _ _ => rfl))
      exact ⟨rfl, hc2, fun o => (World.grownBy_alloc w2 o none).cell hc2 (by simp), hall w2 hbw2, hall _ (hbw2a _), a3, n3, c3, w3, q1, q2, q3, hall w3 q4, hall _ q5, q6 _, q7, q8⟩
    simp only [ptrV]
    clear hcp hod hF hFW hv hbx hrow htd hbel hI hx0 hx1 hd0 hB0 hdead
    gi_wp2
    refine regionIn_held (S := fun V => V.cell? ⟨x.1.p, 0, none⟩ = some (.string x.1.a.name) ∧ V.cell? ⟨x.1.p, 3, none⟩ = some (.slice av x.1.a.data.length cv)) (by kernel_rfl) (fun ⟨_, _, h⟩ => h) (nd_of (by kernel_rfl)) ⟨hnm, hcd⟩ (fun hS => ?_)
    refine wpAnyH_take (i := 1) (v := ?_) rfl (by kernel_rfl) (by kernel_rfl) (by kernel_rfl) (fun _ _ _ h => h) (Or.inl ⟨by rfl, ?_⟩) hS ?_
    rotate_left
    · intro V hV
      (try dsimp only at hV)
      go_simp
      (try with_reducible rfl)
    simp only [Act.put, List.setIfInBounds_toArray]
    refine wpAnyH_take (i := 2) (v := ?_) rfl (by kernel_rfl) (by kernel_rfl) (by kernel_rfl) (fun _ _ _ h => h) (Or.inl ⟨by rfl, ?_⟩) hS ?_
    rotate_left
    · intro V hV
      (try dsimp only at hV)
      go_simp
      (try with_reducible rfl)
    simp only [Act.put]
    refine wpAnyH_take (i := 3) (v := ?_) rfl (by kernel_rfl) (by kernel_rfl) (by kernel_rfl) (fun _ _ _ h => h) (Or.inl ⟨by rfl, ?_⟩) hS ?_
    rotate_left
    · intro V hV
      (try dsimp only at hV)
      go_simp
      (try with_reducible rfl)
    simp only [Act.put]
    refine wpAnyH_take (i := 4) (v := ?_) rfl (by kernel_rfl) (by kernel_rfl) (by kernel_rfl) (fun _ _ _ h => h) (Or.inl ⟨by rfl, ?_⟩) hS ?_
    rotate_left
    · intro V hV
      (try dsimp only at hV)
      go_simp
      (try with_reducible rfl)
    simp only [Act.put]
    refine wpAnyH_take (i := 5) (v := ?_) rfl (by kernel_rfl) (by kernel_rfl) (by kernel_rfl) (fun _ _ _ h => h) (Or.inl ⟨by rfl, ?_⟩) hS ?_
    rotate_left
    · intro V hV
      (try dsimp only at hV)
      go_simp
      (try with_reducible rfl)
    simp only [Act.put]
    refine wpAnyH_take (i := 6) (v := ?_) rfl (by kernel_rfl) (by kernel_rfl) (by kernel_rfl) (fun _ _ _ h => h) (Or.inl ⟨by rfl, ?_⟩) hS ?_
    rotate_left
    · intro V hV
      (try dsimp only at hV)
      go_simp
      (try with_reducible rfl)
    simp only [Act.put]
    refine wpAnyH_take (i := 7) (v := ?_) rfl (by kernel_rfl) (by kernel_rfl) (by kernel_rfl) (fun _ _ _ h => h) (Or.inl ⟨by rfl, ?_⟩) hS ?_
    rotate_left
    · intro V hV
      (try dsimp only at hV)
      go_simp
      (try with_reducible rfl)
    simp only [Act.put]
    refine wpAnyH_take (i := 8) (v := ?_) rfl (by kernel_rfl) (by kernel_rfl) (by kernel_rfl) (fun _ _ _ h => h) (Or.inl ⟨by rfl, ?_⟩) hS ?_
    rotate_left
    · intro V hV
      (try dsimp only at hV)
      go_simp
      (try with_reducible rfl)
    simp only [Act.put]
    refine wpAnyH_ready (rs := [0, 9]) (by kernel_rfl) (by simp) ?_
    refine AllReadyH.cons rfl (fun K hK => ?_) (AllReadyH.cons rfl (fun K hK => ?_) AllReadyH.nil)
    · go_simp
      refine hK.out _ _ hS (fun hS => ?_)
      refine wpAnyH_ready (rs := [9]) (by kernel_rfl) (by simp) (AllReadyH.cons rfl (fun K hK => ?_) AllReadyH.nil)
      go_simp
      refine HCP.out.mono ?_
      rintro e w2 ⟨rfl, HST⟩
      obtain ⟨hc2, hc3, hS2, hS4, a3, n3, c3, w3, HRN, hc4, hf4, hS5, hS6, HFIN⟩ := HST.out
      refine hK.out _ _ hS2 (fun hS => ?_)
      refine wpAnyH_take (i := 10) (v := ?_) rfl (by kernel_rfl) (by kernel_rfl) (by kernel_rfl) (fun _ _ _ h => h) (Or.inl ⟨by rfl, ?_⟩) hS ?_
      rotate_left
      · intro V hV
        (try dsimp only at hV)
        go_simp
        (try with_reducible rfl)
      simp only [Act.put]
      refine wpAnyH_ready (rs := [11]) (by kernel_rfl) (by simp) (AllReadyH.cons rfl (fun K hK => ?_) AllReadyH.nil)
      go_simp
      refine hK.out _ _ hS4 (fun hS => ?_)
      refine wpAnyH_ready (rs := [12]) (by kernel_rfl) (by simp) (AllReadyH.cons rfl (fun K hK => ?_) AllReadyH.nil)
      rw [if_pos (by rfl)]
      refine Lib.wp_append_run _ _ _ 53 53 rfl _ _ rfl rfl _ _ HRN.out ?_
      refine hK.out _ _ hS5 (fun hS => ?_)
      simp only [Act.put]
      refine wpAnyH_ready (rs := [13]) (by kernel_rfl) (by simp) (AllReadyH.cons rfl (fun K hK => ?_) AllReadyH.nil)
      go_simp
      refine hK.out _ _ hS6 (fun hS => wpAnyH_done (by kernel_rfl) ?_ _)
      clear hS hS2 hS4 hS5 hS6 hc2 hc3 hc4 hf4 hK
      gi_wp2
      exact HFIN.out
    · go_simp
      refine HCP.out.mono ?_
      rintro e w2 ⟨rfl, HST⟩
      obtain ⟨hc2, hc3, hS2, hS4, a3, n3, c3, w3, HRN, hc4, hf4, hS5, hS6, HFIN⟩ := HST.out
      refine hK.out _ _ hS2 (fun hS => ?_)
      refine wpAnyH_take (i := 10) (v := ?_) rfl (by kernel_rfl) (by kernel_rfl) (by kernel_rfl) (fun _ _ _ h => h) (Or.inl ⟨by rfl, ?_⟩) hS ?_
      rotate_left
      · intro V hV
        (try dsimp only at hV)
        go_simp
        (try with_reducible rfl)
      simp only [Act.put]
      refine wpAnyH_ready (rs := [0, 11]) (by kernel_rfl) (by simp) ?_
      refine AllReadyH.cons rfl (fun K hK => ?_) (AllReadyH.cons rfl (fun K hK => ?_) AllReadyH.nil)
      · go_simp
        refine hK.out _ _ hS2 (fun hS => ?_)
        refine wpAnyH_ready (rs := [11]) (by kernel_rfl) (by simp) (AllReadyH.cons rfl (fun K hK => ?_) AllReadyH.nil)
        go_simp
        refine hK.out _ _ hS4 (fun hS => ?_)
        refine wpAnyH_ready (rs := [12]) (by kernel_rfl) (by simp) (AllReadyH.cons rfl (fun K hK => ?_) AllReadyH.nil)
        rw [if_pos (by rfl)]
        refine Lib.wp_append_run _ _ _ 53 53 rfl _ _ rfl rfl _ _ HRN.out ?_
        refine hK.out _ _ hS5 (fun hS => ?_)
        simp only [Act.put]
        refine wpAnyH_ready (rs := [13]) (by kernel_rfl) (by simp) (AllReadyH.cons rfl (fun K hK => ?_) AllReadyH.nil)
        go_simp
        refine hK.out _ _ hS6 (fun hS => wpAnyH_done (by kernel_rfl) ?_ _)
        clear hS hS2 hS4 hS5 hS6 hc2 hc3 hc4 hf4 hK
        gi_wp2
        exact HFIN.out
      · go_simp
        refine hK.out _ _ hS4 (fun hS => ?_)
        refine wpAnyH_ready (rs := [0]) (by kernel_rfl) (by simp) (AllReadyH.cons rfl (fun K hK => ?_) AllReadyH.nil)
        go_simp
        refine hK.out _ _ hS4 (fun hS => ?_)
        refine wpAnyH_ready (rs := [12]) (by kernel_rfl) (by simp) (AllReadyH.cons rfl (fun K hK => ?_) AllReadyH.nil)
        rw [if_pos (by rfl)]
        refine Lib.wp_append_run _ _ _ 53 53 rfl _ _ rfl rfl _ _ HRN.out ?_
        refine hK.out _ _ hS5 (fun hS => ?_)
        simp only [Act.put]
        refine wpAnyH_ready (rs := [13]) (by kernel_rfl) (by simp) (AllReadyH.cons rfl (fun K hK => ?_) AllReadyH.nil)
        go_simp
        refine hK.out _ _ hS6 (fun hS => wpAnyH_done (by kernel_rfl) ?_ _)
        clear hS hS2 hS4 hS5 hS6 hc2 hc3 hc4 hf4 hK
        gi_wp2
        exact HFIN.out
  case done =>
    rintro D' ys W hD rfl hI hK
    obtain ⟨a0, c0, cs0, hbx, hrow, htd⟩ := hI.ex
    have HTD : Hid ((W.putObj D' (.deferred none)).ownsRow w.heap.size 69 2 (.slice a0 s.fs.length c0) s.fs.length cs0 ∧ Told w.heap.size (W.putObj D' (.deferred none)) cs0 (s.fs.map fun f => (f.a.name, f.a.data))) := by
      have hcol : colL (fun f => f.a.data) s.fs.attach = s.fs.map fun f => (f.a.name, f.a.data) := by
        unfold colL
        conv => rhs; rw [← List.attach_map_subtype_val s.fs]
        rw [List.map_map]
        rfl
      have hkp : ∀ (k : Nat) (cs : Array Value) (t : TypeId), W.heap[k]? = some (Obj.cells cs t (0, 0)) → (W.putObj D' (.deferred none)).heap[k]? = W.heap[k]? := fun k cs t hc => (grownBy_putObj' W D' _).block k (Array.getElem?_eq_some_iff.1 hc).1 (fun e => by
        cases e
        rw [hc] at hK
        cases hK)
      simp only [List.length_attach] at hrow
      rw [hcol] at htd
      refine ⟨?_, htd.same fun k cur _ hc => hkp k _ _ hc⟩
      obtain ⟨hl, h0 | ⟨g, cap, cur, e, hbg, hg, hr⟩⟩ := hrow
      · exact ⟨hl, .inl h0⟩
      · exact ⟨hl, .inr ⟨g, cap, cur, e, hbg, (hkp g _ _ hg).trans hg, hr⟩⟩
    have hbc : W.cell? ⟨w.heap.size, 0, none⟩ = some (.slice a0 s.fs.length c0) := by
      have := blk_cell (o := 0) hbx (v := .slice a0 s.fs.attach.length c0) rfl
      simpa using this
    have HB : Hid (Below w.heap.size w (W.putObj D' (.deferred none))) := hI.below.trans (belowK_b (w := w) (Nat.le_refl _) W D' _ _ (by omega) hK rfl rfl)
    clear hbx hI hrow htd
    gi_wp2
    refine ⟨by simp, .inl ⟨_, _, rfl, run_takeDeferred hK, ?_⟩⟩
    exact ⟨_, results_tmp rfl _ _ _, ⟨_, _, _, rfl, HTD.out.1, HTD.out.2⟩, HB.out⟩
  case stop =>
    rintro D c pre W _ _ h _
    exact h.elim

end Go.Proofs.Ytcceaokldphfgaa
