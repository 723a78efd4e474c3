/- YtcceaokldphfgaaDiskDoesC10 -/
import Derived.Test.YtcceaokldphfgaaDiskDoesC09
namespace Go.Proofs.Ytcceaokldphfgaa
open Go.RowKit Go.Shelf

theorem Try.info82 : (Try.prog.info? 82).map (fun i => (i.zero, i.size, i.bytes)) = some (some (.pointer none), 1, 8) := by kernel_rfl

set_option maxHeartbeats 1000000 in
set_option maxRecDepth 100000 in
/-- slices.Insert of one file behind all others. -/
theorem Insert_end (v : Value) (n : Nat) (xs : List Value) (b p : Nat) (w : World) (hown : w.ownsRow 0 82 1 v n xs) (hn : n ≤ 4096) (hb : w.cell? ⟨b, 0, none⟩ = some (.pointer (some ⟨p, 0, none⟩))) :
    Calls Try.prog 78 #[v, .int .i64 n, .slice (some ⟨b, 0, none⟩) 1 1] w fun r w' => ∃ a c, r = .returned (.slice a (n + 1) c) ∧ w'.ownsRow 0 82 1 (.slice a (n + 1) c) (n + 1) (xs ++ [.pointer (some ⟨p, 0, none⟩)]) ∧ Grew w w' v (.slice a (n + 1) c) := by
  obtain ⟨i0, hi0, hz0, hz1, hz2⟩ := info_parts Try.info82
  obtain ⟨v', w2, hrun, hown2, hgrew⟩ := app_run (P := Try.prog) w 49 49 82 i0 (.pointer none) 8 Try.underlying49 hi0 hz0 hz1 hz2 rfl v n xs hown ⟨b, 0, none⟩ 1 1 [.pointer (some ⟨p, 0, none⟩)] rfl
    (fun j u hu => by
      match j, hu with
      | 0, hu => simp only [List.getElem?_cons_zero, Option.some.injEq] at hu; subst hu; rw [Addr.add_lit]; exact hb
      | j + 1, hu => simp at hu)
    (fun u hu => by simp at hu; rw [hu]; rfl) (by unfold maxLen; omega) (by omega)
  obtain ⟨a', c', rfl, _⟩ := own_slice hown2
  have HR := hideP hrun
  have HQ : Hid (w2.ownsRow 0 82 1 (.slice a' (n + 1) c') (n + 1) (xs ++ [.pointer (some ⟨p, 0, none⟩)]) ∧ Grew w w2 v (.slice a' (n + 1) c')) := ⟨hown2, hgrew⟩
  have hnn : ((n : Int) == (n : Int)) = true := by simp
  rcases hown.2 with ⟨rfl, rfl⟩ | ⟨g, cap, cur, rfl, _, _, hnc, hcm, _⟩
  · clear hrun hown2 hgrew hown
    go_enter Try.func78, Try.ntmps78
    go_wp2_with (at_builtin; refine Lib.wpList_append_run _ rfl _ _ 49 49 rfl _ _ rfl rfl _ _ HR.out ?_)
    go_ret
    exact ⟨_, _, rfl, HQ.out⟩
  · simp only [maxLen] at hcm
    clear hrun hown2 hgrew hown
    by_cases hcn : cap = n
    · subst hcn
      go_enter Try.func78, Try.ntmps78
      go_wp2_with (at_builtin; refine Lib.wpList_append_run _ rfl _ _ 49 49 rfl _ _ rfl rfl _ _ HR.out ?_)
      go_ret
      exact ⟨_, _, rfl, HQ.out⟩
    · go_enter Try.func78, Try.ntmps78
      go_wp2_with (at_builtin; refine Lib.wpList_append_run _ rfl _ _ 49 49 rfl _ _ rfl rfl _ _ HR.out ?_)
      go_ret
      exact ⟨_, _, rfl, HQ.out⟩

/-- The new file of a Create. -/
def newF (p : Nat) (t : ByteArray) : FRep := { p := p, safeV := .slice none 0 0, chV := .slice none 0 0, dataV := .slice none 0 0, a := { name := t, safe := [], chs := [], data := [] } }

/-- The roles when a file has come. -/
def roleNew (role : Role) (w w2 : World) (D p : Nat) : Role := fun k => if k = p then some (2, p) else if k < w.heap.size then role k else if k < w2.heap.size then some (1, D) else none

/-- The files' row is grown by a file behind all others. -/
theorem DiskOK.putLast {wB w w1 : World} {role0 role : Role} {D p : Nat} {s : DSt} {t : ByteArray} {v : Value} (h : DiskOK w role D s) (hp : role p = none) (hblk : w.heap[p]? = some (.cells #[.string t, .slice none 0 0, .slice none 0 0, .slice none 0 0] 87 (0, 0)))
    (hst : Stp role0 role wB w) (hpB : wB.heap.size ≤ p)
    (hg : Grew w w1 s.filesV v) (ho : w1.ownsRow 0 82 1 v (s.fs.length + 1) (s.fs.map ptrV ++ [.pointer (some ⟨p, 0, none⟩)])) (hlast : ∀ f ∈ s.fs, cmpS f.a.name t < 0) (hfew : s.fs.length < 4096) :
    DiskOK (w1.setCell ⟨D, 8, none⟩ v) (roleNew role w (w1.setCell ⟨D, 8, none⟩ v) D p) D { s with filesV := v, fs := s.fs ++ [newF p t] } ∧ Stp role0 (roleNew role w (w1.setCell ⟨D, 8, none⟩ v) D p) wB (w1.setCell ⟨D, 8, none⟩ v) := by
  have hz : (w1.setCell ⟨D, 8, none⟩ v).heap.size = w1.heap.size := by simp [World.setCell]
  have hzz := hg.by_.size
  have hplt : p < w.heap.size := (Array.getElem?_eq_some_iff.1 hblk).1
  have hpD : p ≠ D := fun e => by rw [e, h.rD] at hp; cases hp
  have hsame : ∀ k, k < w.heap.size → s.filesV.ownBlock ≠ some k → k ≠ D → (w1.setCell ⟨D, 8, none⟩ v).heap[k]? = w.heap[k]? := fun k hk h1 h2 =>
    (Below.heap_setCell w1 _ v k h2).trans (hg.by_.block k hk (fun e => h1 e.symm))
  have hkeep : ∀ k q, role k = some q → q.1 ≠ 0 → q.1 ≠ 1 → (w1.setCell ⟨D, 8, none⟩ v).heap[k]? = w.heap[k]? := by
    intro k q hk h0 h1
    refine hsame k (h.dom k q hk) (fun e => ?_) (fun e => ?_)
    · have := h.rfiles k e; rw [hk] at this; cases this; exact h1 rfl
    · subst e; have := h.rD; rw [hk] at this; cases this; exact h0 rfl
  have hpsame : (w1.setCell ⟨D, 8, none⟩ v).heap[p]? = w.heap[p]? := hsame p hplt (fun e => by have := h.rfiles p e; rw [hp] at this; cases this) hpD
  have hr : ∀ k q, role k = some q → roleNew role w (w1.setCell ⟨D, 8, none⟩ v) D p k = some q := by
    intro k q hk
    unfold roleNew
    rw [if_neg (fun e => by subst e; rw [hp] at hk; cases hk), if_pos (h.dom k q hk)]
    exact hk
  have hDf : s.filesV.ownBlock ≠ some D := fun e => by have := h.rfiles D e; rw [h.rD] at this; simp at this
  have hvD : v.ownBlock ≠ some D := fun e => by
    rcases hg.at_ D e with h1 | h1
    · exact hDf h1
    · have := h.dom _ _ h.rD; omega
  have hb1 : w1.heap[D]? = some (.cells #[.bool true, .bool s.dead, .int .i64 s.crash, s.keepV, s.failV, s.fullV, .int .i64 s.room, .int .i64 s.ops, s.filesV] 51 (0, 0)) :=
    (hg.by_.block D (h.dom _ _ h.rD) (fun e => hDf e.symm)).trans h.blk
  have hle : w.heap.size ≤ (w1.setCell ⟨D, 8, none⟩ v).heap.size := by omega
  refine ⟨?_, ?_⟩
  · exact {
      rD := hr _ _ h.rD
      blk := blk_set hb1 v
      keep := h.keep.same hle (fun k e _ => hkeep k _ e (by simp) (by simp)) (fun k e => hr k _ e)
      fail := h.fail.same hle (fun k e _ => hkeep k _ e (by simp) (by simp)) (fun k e => hr k _ e)
      full := h.full.same hle (fun k e _ => hkeep k _ e (by simp) (by simp)) (fun k e => hr k _ e)
      files := by
        have := own_same ho (w' := w1.setCell ⟨D, 8, none⟩ v) (fun k e _ => Below.heap_setCell w1 _ v k (fun e' => hvD (by rw [e]; exact congrArg some e')))
        simpa [ptrV, newF] using this
      rfiles := by
        intro g e
        rcases hg.at_ g e with h1 | h1
        · exact hr _ _ (h.rfiles g h1)
        · have hlt := (ho.lt g e).2
          show roleNew role w _ D p g = _
          unfold roleNew
          rw [if_neg (by omega), if_neg (by omega), if_pos (by omega)]
      each := by
        intro f hf
        rcases List.mem_append.1 hf with hf | hf
        · refine (h.each f hf).kept (fun k hk _ => ?_) hr
          rcases hk with ⟨i, hk⟩ | hk
          · refine hsame k (h.dom k _ hk) (fun e => ?_) (fun e => ?_)
            · have h1 := h.rfiles k e
              rw [hk] at h1
              simp only [Option.some.injEq, Prod.mk.injEq] at h1
              have h2 := (h.each f hf).rp
              rw [h1.2, h.rD] at h2
              simp at h2
            · subst e
              rw [h.rD] at hk
              simp only [Option.some.injEq, Prod.mk.injEq] at hk
              have h2 := (h.each f hf).rp
              rw [← hk.2, h.rD] at h2
              simp at h2
          · exact hkeep k _ hk (by simp) (by simp)
        · have e : f = newF p t := by simpa using hf
          subst e
          exact {
            rp := by show roleNew role w _ D p p = _; unfold roleNew; rw [if_pos rfl]; rfl
            blk := hpsame.trans hblk
            osafe := World.ownsRow_nil _ _ _ _
            rsafe := fun g e => by simp [newF, Value.ownBlock] at e
            odata := World.ownsRow_nil _ _ _ _
            rdata := fun g e => by simp [newF, Value.ownBlock] at e
            och := ⟨[], World.ownsRow_nil _ _ _ _, fun j c hj => by simp [newF] at hj⟩
            rch := fun g e => by simp [newF, Value.ownBlock] at e
            lsafe := by simp [newF]
            ldata := by simp [newF] }
      nodup := by
        simp only [List.map_append, List.map_cons, List.map_nil]
        rw [List.nodup_append]
        refine ⟨h.nodup, by simp, fun a ha b hb => ?_⟩
        simp only [List.mem_cons, List.not_mem_nil, or_false] at hb
        subst hb
        intro e
        obtain ⟨f, hf, hfp⟩ := List.mem_map.1 ha
        have h2 := (h.each f hf).rp
        have h3 := hfp.trans e
        rw [h3, hp] at h2
        cases h2
      sorted := by
        show List.Pairwise _ (s.fs ++ [newF p t])
        rw [List.pairwise_append]
        refine ⟨h.sorted, by simp, fun f hf g hg' => ?_⟩
        simp only [List.mem_cons, List.not_mem_nil, or_false] at hg'
        subst hg'
        exact hlast f hf
      dom := by
        intro k q e
        unfold roleNew at e
        split at e
        · omega
        · split at e
          · have := h.dom k q e; omega
          · split at e
            · assumption
            · cases e
      few := by simp; omega
      iC := h.iC
      iR := h.iR
      iO := h.iO
      nch := by
        have := h.nch
        simp only [nchs, List.map_append, List.sum_append, newF] at this ⊢
        simpa using this }
  · refine ⟨hg.by_.os.trans hst.os, hg.by_.tape.trans hst.tape, hg.by_.output.trans hst.output, by have := hst.size; omega, fun k hk => ?_, fun k hk hn => ?_, fun k hk hn => ?_⟩
    · have := hst.size
      unfold roleNew
      rw [if_neg (by omega), if_pos (by omega)]
      exact hst.ext k hk
    · have hsz := hst.size
      have hrk := hst.ext k hk
      refine (hsame k (by omega) (fun e => ?_) (fun e => ?_)).trans (hst.keep k hk hn)
      · have := h.rfiles k e; rw [hrk] at this; rw [this] at hn; simp at hn
      · subst e; have := h.rD; rw [hrk] at this; rw [this] at hn; simp at hn
    · have hsz := hst.size
      have hno := hst.others k hk hn
      refine (hsame k (by omega) (fun e => ?_) (fun e => ?_)).trans hno
      · exact hn ((isC_same hno).1 (own_isC h.files e))
      · subst e
        exact hn ((isC_same hno).1 ⟨_, _, _, h.blk⟩)

theorem stands_last {fs : List FRep} {t : ByteArray} {i : Nat} (h : Stands (rowL fs) t i) (hlast : ∀ f ∈ fs, cmpS f.a.name t < 0) : i = fs.length := by
  have h1 := h.le
  simp only [rowL, List.length_map] at h1
  rcases Nat.lt_or_ge i fs.length with hlt | hge
  · have h2 := h.above i (fs[i].p, fs[i].a.name) (by unfold rowL; rw [List.getElem?_map, List.getElem?_eq_getElem hlt]; rfl) (Nat.le_refl _)
    have h3 := hlast fs[i] (List.getElem_mem hlt)
    simp only at h2
    omega
  · omega

set_option maxHeartbeats 1000000 in
set_option maxRecDepth 100000 in
theorem insert_last {wB w : World} {role0 role : Role} {D p : Nat} {s : DSt} {t : ByteArray} (h : DiskOK w role D s) (hp : role p = none) (hblk : w.heap[p]? = some (.cells #[.string t, .slice none 0 0, .slice none 0 0, .slice none 0 0] 87 (0, 0)))
    (hst : Stp role0 role wB w) (hpB : wB.heap.size ≤ p) (hlast : ∀ f ∈ s.fs, cmpS f.a.name t < 0) (hfew : s.fs.length < 4096) :
    Calls Try.prog 61 #[.pointer (some ⟨D, 0, none⟩), .pointer (some ⟨p, 0, none⟩)] w fun r w' => r = .returned (.tuple #[]) ∧ ∃ role' v', DiskOK w' role' D { s with filesV := v', fs := s.fs ++ [newF p t] } ∧ Stp role0 role' wB w' := by
  have hcn : w.cell? ⟨p, 0, none⟩ = some (.string t) := blk_cell hblk rfl
  have hpl := dPlace h t
  have hcf := h.cells.2.2
  have hff : w.frozen? ⟨D, 8, none⟩ = false := blk_free h.blk
  have HST : Hid (∀ i, Stands (rowL s.fs) t i → i = s.fs.length) := fun i hi => stands_last hi hlast
  have hb0 : Below w.heap.size w (w.alloc (.cells #[.pointer (some ⟨p, 0, none⟩)] 82)) := (Below.refl _ w).alloc (Nat.le_refl _) _
  have hd1 := h.still hb0
  have hst1 := hst.trans (Stp.still hb0)
  have hblk1 := (hb0.block p (Array.getElem?_eq_some_iff.1 hblk).1).trans hblk
  have hins := Insert_end s.filesV s.fs.length (s.fs.map ptrV) w.heap.size p (w.alloc (.cells #[.pointer (some ⟨p, 0, none⟩)] 82)) hd1.files (by omega) (cell_new _ _).1
  have hins2 : Calls Try.prog 78 #[s.filesV, .int .i64 s.fs.length, .slice (some ⟨w.heap.size, 0, none⟩) 1 1] (w.alloc (.cells #[.pointer (some ⟨p, 0, none⟩)] 82)) fun r w' => ∃ a c, r = .returned (.slice a (s.fs.length + 1) c) ∧ w'.cell? ⟨D, 8, none⟩ = some s.filesV ∧ w'.frozen? ⟨D, 8, none⟩ = false ∧
      Hid (∃ role' v', DiskOK (w'.setCell ⟨D, 8, none⟩ (.slice a (s.fs.length + 1) c)) role' D { s with filesV := v', fs := s.fs ++ [newF p t] } ∧ Stp role0 role' wB (w'.setCell ⟨D, 8, none⟩ (.slice a (s.fs.length + 1) c))) := by
    refine hins.mono ?_
    rintro r w' ⟨a, c, rfl, ho, hg⟩
    obtain ⟨q1, q2⟩ := hd1.putLast hp hblk1 hst1 hpB hg ho hlast hfew
    have hbD : w'.heap[D]? = _ := (hg.by_.block D (hd1.dom _ _ hd1.rD) (fun e => by have := hd1.rfiles D e.symm; rw [hd1.rD] at this; simp at this)).trans hd1.blk
    exact ⟨a, c, rfl, blk_cell hbD rfl, blk_free hbD, _, _, q1, q2⟩
  have HI := hideP hins2
  have hl0 : s.fs.length < 4096 := hfew
  obtain ⟨fv, hfv⟩ : ∃ fv, fv = s.filesV := ⟨_, rfl⟩
  rw [← hfv] at hcf HI
  clear h hblk hst hlast hins hins2 hd1 hst1 hblk1 hb0 hfew hfv
  go_enter Try.func61, Try.ntmps61
  go_wp2_with fail
  refine hpl.mono ?_
  rintro r w1 ⟨⟨i, rfl, hi⟩, rfl⟩
  have e := HST.out i hi
  subst e
  clear hi hpl
  generalize thereAt (rowL s.fs) t s.fs.length = bb
  go_wp2_with fail
  refine HI.out.mono ?_
  rintro r w2 ⟨a, c, rfl, q1, q2, HF⟩
  go_wp2
  go_end0
  exact ⟨rfl, HF.out⟩

end Go.Proofs.Ytcceaokldphfgaa

namespace Go.Proofs.Ytcceaokldphfgaa
open Go.RowKit Go.Shelf

theorem find_last {fs : List FRep} {t : ByteArray} (hlast : ∀ f ∈ fs, cmpS f.a.name t < 0) : findF fs t = none := by
  unfold findF
  rw [List.find?_eq_none]
  intro f hf
  have := hlast f hf
  simp; omega

set_option maxHeartbeats 1000000 in
set_option maxRecDepth 100000 in
/-- Create of a file behind all others. -/
theorem create_last {w : World} {role : Role} {D : Nat} {s : DSt} {t : ByteArray} (h : DiskOK w role D s) (hd : s.dead = false) (ho : s.ops < 1099511627776) (hcr : s.ops + 1 ≠ s.crash) (hfa : ¬ s.ops + 1 ∈ s.fail) (hfu : ¬ s.ops + 1 ∈ s.full)
    (hok : okName t = true) (hlast : ∀ f ∈ s.fs, cmpS f.a.name t < 0) (hfew : s.fs.length < 4096) :
    Calls Try.prog 29 #[.pointer (some ⟨D, 0, none⟩), .string t] w fun r w' => r = .returned (.int .i64 0) ∧ ∃ role' p v', DiskOK w' role' D { bump s with filesV := v', fs := s.fs ++ [newF p t] } ∧ Stp role role' w w' := by
  have hb := begin_on h hd ho hcr false (by simp [hfa])
  simp only [Bool.false_eq_true, if_false] at hb
  have HOK := hideP hok
  have HLA := hideP hlast
  have HFU := hideP hfu
  clear h hd ho hcr hfa hok hlast hfu
  go_enter Try.func29, Try.ntmps29
  go_wp2_with fail
  refine hb.mono ?_
  rintro r w1 ⟨rfl, hd1, hs1⟩
  have hnm := isName_any t w1
  rw [HOK.out] at hnm
  have HD1 := hideP hd1
  have HS1 := hideP hs1
  clear hd1 hs1 hb
  go_wp2_with fail
  refine hnm.mono ?_
  rintro r w2 ⟨rfl, hb2⟩
  have hd2 := HD1.out.still hb2
  have hfi := dFind hd2 t
  rw [find_last (t := t) (fs := (bump s).fs) HLA.out] at hfi
  simp only [fileV] at hfi
  have hc8 := hd2.cells.2.2
  obtain ⟨av, cv, hv, _⟩ := own_slice hd2.files
  rw [hv] at hc8
  simp only [bump] at hc8
  have hfull := isFull_any hd2 0 (by omega)
  have hfb : fullB (bump s) 0 = false := by
    have := HFU.out
    simp only [fullB, bump]
    simp [this]
  rw [hfb] at hfull
  have HD2 := hideP hd2
  have HB2 := hideP hb2
  have HFI := hideP hfi
  have HFL := hideP hfull
  clear hd2 hb2 hfi hfull hfb hv hnm
  go_wp2_with fail
  refine HFI.out.mono ?_
  rintro r w3 ⟨rfl, hw3⟩
  subst hw3
  go_wp2_with fail
  refine HFL.out.mono ?_
  rintro r w4 ⟨rfl, hb4⟩
  have hd4 := HD2.out.still hb4
  have hb5 : Below w4.heap.size w4 (w4.alloc (.cells #[.string t, .slice none 0 0, .slice none 0 0, .slice none 0 0] 87)) := (Below.refl _ w4).alloc (Nat.le_refl _) _
  have hd5 := hd4.still hb5
  have hst5 : Stp role role w4 (w4.alloc (.cells #[.string t, .slice none 0 0, .slice none 0 0, .slice none 0 0] 87)) := Stp.still hb5
  have hp5 : role w4.heap.size = none := by
    cases e : role w4.heap.size with
    | none => rfl
    | some q => have := hd4.dom _ q e; omega
  have hins := insert_last (wB := w4) (p := w4.heap.size) (t := t) hd5 hp5 (World.alloc_heap_new w4 _) hst5 (Nat.le_refl _) HLA.out hfew
  have HIN : Hid (Calls Try.prog 61 #[.pointer (some ⟨D, 0, none⟩), .pointer (some ⟨w4.heap.size, 0, none⟩)] (w4.alloc (.cells #[.string t, .slice none 0 0, .slice none 0 0, .slice none 0 0] 87)) fun r w' => r = .returned (.tuple #[]) ∧ Hid (∃ role' p v', DiskOK w' role' D { bump s with filesV := v', fs := s.fs ++ [newF p t] } ∧ Stp role role' w w')) := by
    refine hins.mono ?_
    rintro r w' ⟨rfl, role', v', q1, q2⟩
    exact ⟨rfl, role', _, v', q1, ((HS1.out.trans (Stp.still HB2.out)).trans (Stp.still hb4)).trans q2⟩
  clear hins hd5 hst5 hp5 hd4 hb5 hb4
  go_wp2_with fail
  refine HIN.out.mono ?_
  rintro r w6 ⟨rfl, HF⟩
  go_wp2
  go_ret
  exact ⟨rfl, HF.out⟩

end Go.Proofs.Ytcceaokldphfgaa
