/- YtcceaokldphfgaaDiskDoesC20 -/
import Derived.Test.YtcceaokldphfgaaDiskDoesC19
namespace Go.Proofs.Ytcceaokldphfgaa
open Go.RowKit Go.Shelf

theorem begin_D {w : World} {role : Role} {D : Nat} {s : DSt} (h : DiskOK w role D s) (ho : s.ops < 1099511627776) :
    Calls Try.prog 57 #[.pointer (some ⟨D, 0, none⟩)] w fun r w' => ∃ role' s' e, r = .returned (.int .i64 e) ∧ DiskOK w' role' D s' ∧ Stp role role' w w' ∧ beginA (abs s) = (abs s', e) := by
  refine (begin_any h ho).mono ?_
  rintro r w' ⟨role', s', e, h1, h2, h3, h4⟩
  exact ⟨role', s', e, h1, h2, h3, h4.fn⟩

/-- The role of a new file. -/
def roleF (role : Role) (p : Nat) : Role := fun k => if k = p then some (2, p) else role k

theorem fresh_file {w : World} {role : Role} {D p : Nat} {s : DSt} {t : ByteArray} (h : DiskOK w role D s) (hp : role p = none) (hb : w.heap[p]? = some (.cells #[.string t, .slice none 0 0, .slice none 0 0, .slice none 0 0] 87 (0, 0))) :
    DiskOK w (roleF role p) D s ∧ FileOK w (roleF role p) (newF p t) := by
  have hr : ∀ k q, role k = some q → roleF role p k = some q := fun k q e => by
    unfold roleF
    rw [if_neg (fun e' => by subst e'; rw [hp] at e; cases e)]
    exact e
  refine ⟨h.kept (Nat.le_refl _) (fun _ _ _ _ => rfl) hr (fun k q e => ?_), ?_⟩
  · unfold roleF at e
    split at e
    · rename_i e'; subst e'; exact (Array.getElem?_eq_some_iff.1 hb).1
    · exact h.dom k q e
  · exact {
      rp := by unfold roleF; exact if_pos rfl
      blk := hb
      osafe := World.ownsRow_nil _ _ _ _
      rsafe := fun g e => by simp [newF, Value.ownBlock] at e
      odata := World.ownsRow_nil _ _ _ _
      rdata := fun g e => by simp [newF, Value.ownBlock] at e
      och := ⟨[], World.ownsRow_nil _ _ _ _, fun j c hj => by simp [newF] at hj⟩
      rch := fun g e => by simp [newF, Value.ownBlock] at e
      lsafe := by simp [newF]
      ldata := by simp [newF] }

theorem no_role {w : World} {role : Role} {D : Nat} {s : DSt} (h : DiskOK w role D s) {k : Nat} (hk : w.heap.size ≤ k) : role k = none := by
  cases e : role k with
  | none => rfl
  | some q => have := h.dom k q e; omega

theorem create_ins {w : World} {role : Role} {D : Nat} {s : DSt} {t : ByteArray} (h : DiskOK w role D s) (hno : findF s.fs t = none) (hfew : s.fs.length < 4096) :
    Calls Try.prog 61 #[.pointer (some ⟨D, 0, none⟩), .pointer (some ⟨w.heap.size, 0, none⟩)] (w.alloc (.cells #[.string t, .slice none 0 0, .slice none 0 0, .slice none 0 0] 87)) fun r w' => r = .returned (.tuple #[]) ∧ Hid (∃ role' s', DiskOK w' role' D s' ∧ Stp role role' w w' ∧ abs s' = { abs s with fs := insA (abs s).fs (newA t) }) := by
  have hb : Below w.heap.size w (w.alloc (.cells #[.string t, .slice none 0 0, .slice none 0 0, .slice none 0 0] 87)) := (Below.refl _ w).alloc (Nat.le_refl _) _
  have hp : role w.heap.size = none := no_role h (Nat.le_refl _)
  obtain ⟨h1, h2⟩ := fresh_file (h.still hb) hp (World.alloc_heap_new w _)
  refine (insert_any h1 h2 (fun g hg e => ?_) (fun g hg e => ?_) hfew (by have := h.nch; simp [newF]; omega)).mono ?_
  · have h3 := (h.each g hg).rp
    have h4 : g.p = w.heap.size := e
    rw [h4, hp] at h3
    cases h3
  · unfold findF at hno
    have := List.find?_eq_none.1 hno g hg
    exact this (by simpa [newF] using e)
  · rintro r w' ⟨rfl, role', v', fs', q1, q2, q3⟩
    have hst := q2.stp h1
    refine ⟨rfl, role', _, q1, ⟨hst.os, hst.tape, hst.output, Nat.le_trans hb.size hst.size, fun k hk => ?_, fun k hk hn => ?_, fun k hk hn => ?_⟩, ?_⟩
    · rw [hst.ext k (Nat.lt_of_lt_of_le hk hb.size)]
      unfold roleF
      rw [if_neg (by omega)]
    · refine (hst.keep k (Nat.lt_of_lt_of_le hk hb.size) ?_).trans (hb.block k hk)
      unfold roleF
      rw [if_neg (by omega)]
      exact hn
    · exact (hst.others k (Nat.lt_of_lt_of_le hk hb.size) (fun hc => hn ((isC_same (hb.block k hk)).1 hc))).trans (hb.block k hk)
    · simp only [abs, q3]
      rfl

set_option maxHeartbeats 1000000 in
set_option maxRecDepth 100000 in
theorem create_D {w : World} {role : Role} {D : Nat} {s : DSt} (h : DiskOK w role D s) (ho : s.ops < 1099511627776) (t : ByteArray) :
    Calls Try.prog 29 #[.pointer (some ⟨D, 0, none⟩), .string t] w (Done w role D (createA (abs s) t)) := by
  have hb := begin_D h ho
  clear h ho
  go_enter Try.func29, Try.ntmps29
  go_wp2_with fail
  refine hb.mono ?_
  rintro r w1 ⟨role1, s1, e, rfl, hd1, hs1, hbg⟩
  clear hb
  have HC : Hid (createA (abs s) t = if e ≠ 0 then (abs s1, e) else if okName t = false then (abs s1, 15) else if (findA (abs s1).fs t).isSome = true then (abs s1, 14) else if 4096 ≤ (abs s1).fs.length then (abs s1, 2) else if fullA (abs s1) 0 = true then (abs s1, 12) else ({ abs s1 with fs := insA (abs s1).fs (newA t) }, 0)) := by
    show createA (abs s) t = _
    unfold createA
    rw [hbg]
  clear hbg
  by_cases he : e = 0
  · subst he
    have hnm := isName_any t w1
    have HD1 := hideP hd1
    have HS1 := hideP hs1
    clear hd1 hs1
    go_wp2_with fail
    refine hnm.mono ?_
    rintro r w2 ⟨rfl, hb2⟩
    clear hnm
    have hd2 := HD1.out.still hb2
    have hs2 := HS1.out.trans (Stp.still hb2)
    cases hok : okName t with
    | false =>
      have HF : Hid (Done w role D (createA (abs s) t) (.returned (.int .i64 15)) w2) := by
        rw [HC.out, if_neg (by simp), if_pos hok]
        exact ⟨rfl, role1, s1, hd2, hs2, rfl⟩
      clear hd2 hs2 hok hb2
      go_wp2
      go_ret
      exact HF.out
    | true =>
      have hfi := dFind hd2 t
      have HD2 := hideP hd2
      have HS2 := hideP hs2
      have hfa : findA (abs s1).fs t = (findF s1.fs t).map (·.a) := find_fn s1.fs t
      cases hf : findF s1.fs t with
      | some f =>
        rw [hf] at hfi hfa
        simp only [fileV, ptrV] at hfi
        have HF : Hid (Done w role D (createA (abs s) t) (.returned (.int .i64 14)) w2) := by
          rw [HC.out, if_neg (by simp), if_neg (by simp [hok]), if_pos (by rw [hfa]; rfl)]
          exact ⟨rfl, role1, s1, hd2, hs2, rfl⟩
        have HFI := hideP hfi
        clear hd2 hs2 hok hb2 hfi hf hfa
        go_wp2_with fail
        refine HFI.out.mono ?_
        rintro r w3 ⟨rfl, hw3⟩
        subst hw3
        go_wp2
        go_ret
        exact HF.out
      | none =>
        rw [hf] at hfi hfa
        simp only [fileV] at hfi
        have hc8 := hd2.cells.2.2
        obtain ⟨av, cv, hv, _⟩ := own_slice hd2.files
        rw [hv] at hc8
        have HFI := hideP hfi
        by_cases hmany : 4096 ≤ s1.fs.length
        · have HF : Hid (Done w role D (createA (abs s) t) (.returned (.int .i64 2)) w2) := by
            rw [HC.out, if_neg (by simp), if_neg (by simp [hok]), if_neg (by rw [hfa]; simp), if_pos (by simpa [abs] using hmany)]
            exact ⟨rfl, role1, s1, hd2, hs2, rfl⟩
          clear hd2 hs2 hok hb2 hfi hf hfa hv
          go_wp2_with fail
          refine HFI.out.mono ?_
          rintro r w3 ⟨rfl, hw3⟩
          subst hw3
          go_wp2
          go_ret
          exact HF.out
        · have hfull := isFull_any hd2 0 (by omega)
          rw [full_fn] at hfull
          have HFL := hideP hfull
          have HF0 := hideP hf
          have HX : Hid (createA (abs s) t = if fullA (abs s1) 0 = true then (abs s1, 12) else ({ abs s1 with fs := insA (abs s1).fs (newA t) }, 0)) := by
            show createA (abs s) t = _
            rw [HC.out, if_neg (by simp), if_neg (by simp [hok]), if_neg (by rw [hfa]; simp), if_neg (by simpa [abs] using hmany)]
          clear hd2 hs2 hok hb2 hfi hf hfa hv hfull
          go_wp2_with fail
          refine HFI.out.mono ?_
          rintro r w3 ⟨rfl, hw3⟩
          subst hw3
          go_wp2_with fail
          refine HFL.out.mono ?_
          rintro r w4 ⟨rfl, hb4⟩
          have hd4 := HD2.out.still hb4
          have hs4 := HS2.out.trans (Stp.still hb4)
          cases hfb : fullA (abs s1) 0 with
          | true =>
            have HF : Hid (Done w role D (createA (abs s) t) (.returned (.int .i64 12)) w4) := by
              rw [HX.out, if_pos hfb]
              exact ⟨rfl, role1, s1, hd4, hs4, rfl⟩
            clear hd4 hs4 hb4 hfb
            go_wp2
            go_ret
            exact HF.out
          | false =>
            have HIN : Hid (Calls Try.prog 61 #[.pointer (some ⟨D, 0, none⟩), .pointer (some ⟨w4.heap.size, 0, none⟩)] (w4.alloc (.cells #[.string t, .slice none 0 0, .slice none 0 0, .slice none 0 0] 87)) fun r w' => r = .returned (.tuple #[]) ∧ Hid (Done w role D (createA (abs s) t) (.returned (.int .i64 0)) w')) := by
              refine (create_ins hd4 HF0.out (by omega)).mono ?_
              rintro r w' ⟨rfl, role', s', q1, q2, q3⟩
              refine ⟨rfl, ?_⟩
              rw [HX.out, if_neg (by simp [hfb])]
              exact ⟨rfl, role', s', q1, hs4.trans q2, q3⟩
            clear hd4 hs4 hb4 hfb
            go_wp2_with fail
            refine HIN.out.mono ?_
            rintro r w6 ⟨rfl, HF⟩
            go_wp2
            go_ret
            exact HF.out
  · have hq : (e != 0) = true := by simp [he]
    have HF : Hid (Done w role D (createA (abs s) t) (.returned (.int .i64 e)) w1) := by
      rw [HC.out, if_pos he]
      exact ⟨rfl, role1, s1, hd1, hs1, rfl⟩
    clear hd1 hs1 he
    go_wp2
    go_ret
    exact HF.out

end Go.Proofs.Ytcceaokldphfgaa

namespace Go.Proofs.Ytcceaokldphfgaa
open Go.RowKit Go.Shelf

/-- What lies beside the row's files may turn. -/
theorem DiskOK.out {w w' : World} {role : Role} {D p : Nat} {s : DSt} (h : DiskOK w role D s) (hrp : role p = some (2, p)) (hp : ∀ g ∈ s.fs, g.p ≠ p) (hz : w'.heap.size = w.heap.size) (hs : ∀ k, k ≠ p → w'.heap[k]? = w.heap[k]?) : DiskOK w' role D s := by
  have h6 : ∀ k, role k = some (6, 0) → w'.heap[k]? = w.heap[k]? := fun k e => hs k (fun e' => by rw [e', hrp] at e; simp at e)
  exact {
    rD := h.rD
    blk := (hs D (fun e => by have := h.rD; rw [e, hrp] at this; simp at this)).trans h.blk
    keep := h.keep.same (by omega) (fun k e _ => h6 k e) (fun _ e => e)
    fail := h.fail.same (by omega) (fun k e _ => h6 k e) (fun _ e => e)
    full := h.full.same (by omega) (fun k e _ => h6 k e) (fun _ e => e)
    files := own_same h.files (fun k e _ => hs k (fun e' => by have := h.rfiles k e; rw [e', hrp] at this; simp at this))
    rfiles := h.rfiles
    each := fun f hf => (h.each f hf).kept (fun k hk _ => by
      rcases hk with ⟨i, hk⟩ | hk
      · refine hs k (fun e => ?_)
        rw [e, hrp] at hk
        simp only [Option.some.injEq, Prod.mk.injEq] at hk
        exact hp f hf hk.2.symm
      · exact h6 k hk) (fun _ _ e => e)
    nodup := h.nodup
    sorted := h.sorted
    dom := fun k q e => by rw [hz]; exact h.dom k q e
    few := h.few
    iC := h.iC
    iR := h.iR
    iO := h.iO
    nch := h.nch }

theorem FileOK.rename {w : World} {role : Role} {f : FRep} (h : FileOK w role f) (u : ByteArray) : FileOK (w.setCell ⟨f.p, 0, none⟩ (.string u)) role { f with a := { f.a with name := u } } := by
  have hs : ∀ k, k ≠ f.p → (w.setCell ⟨f.p, 0, none⟩ (.string u)).heap[k]? = w.heap[k]? := fun k hk => Below.heap_setCell w _ _ k hk
  have hn : ∀ k i, role k = some (i, f.p) → i ≠ 2 → k ≠ f.p := fun k i e hi e' => by rw [e', h.rp] at e; simp at e; exact hi e.symm
  exact {
    rp := h.rp
    blk := blk_set h.blk (.string u)
    osafe := own_same h.osafe (fun k e _ => hs k (hn k 3 (h.rsafe k e) (by simp)))
    rsafe := h.rsafe
    odata := own_same h.odata (fun k e _ => hs k (hn k 4 (h.rdata k e) (by simp)))
    rdata := h.rdata
    och := by
      obtain ⟨vals, ho, hc⟩ := h.och
      refine ⟨vals, own_same ho (fun k e _ => hs k (hn k 5 (h.rch k e) (by simp))), fun j c hj => ?_⟩
      obtain ⟨v, hv, hat⟩ := hc j c hj
      exact ⟨v, hv, hat.same (fun k e _ => hs k (fun e' => by rw [e', h.rp] at e; simp at e)) (fun _ e => e)⟩
    rch := h.rch
    lsafe := h.lsafe
    ldata := h.ldata }

theorem Stp.file {w : World} {role : Role} {D : Nat} {s : DSt} {f : FRep} (_h : DiskOK w role D s) (hf : FileOK w role f) (o : Nat) (v : Value) : Stp role role w (w.setCell ⟨f.p, o, none⟩ v) := by
  have hs : ∀ k, k ≠ f.p → (w.setCell ⟨f.p, o, none⟩ v).heap[k]? = w.heap[k]? := fun k hk => Below.heap_setCell w _ _ k hk
  refine ⟨rfl, rfl, rfl, by simp [World.setCell], fun _ _ => rfl, fun k _ hn => hs k (fun e => ?_), fun k _ hn => hs k (fun e => ?_)⟩
  · rw [e, hf.rp] at hn; simp at hn
  · subst e; exact hn ⟨_, _, _, hf.blk⟩

/-- A file of the row is taken out, with another name's, gets that name, and comes back. -/
theorem rename_tail {w : World} {role : Role} {D i : Nat} {s : DSt} {f : FRep} {t u : ByteArray} (h : DiskOK w role D s) (hi : s.fs[i]? = some f) (ht : f.a.name = t) :
    Calls Try.prog 64 #[.pointer (some ⟨D, 0, none⟩), .string t] w fun r w1 => r = .returned (.tuple #[]) ∧ Hid (Calls Try.prog 64 #[.pointer (some ⟨D, 0, none⟩), .string u] w1 fun r w2 => r = .returned (.tuple #[]) ∧ w2.cell? ⟨f.p, 0, none⟩ = some (.string t) ∧ w2.frozen? ⟨f.p, 0, none⟩ = false ∧
      Hid (Calls Try.prog 61 #[.pointer (some ⟨D, 0, none⟩), .pointer (some ⟨f.p, 0, none⟩)] (w2.setCell ⟨f.p, 0, none⟩ (.string u)) fun r w3 => r = .returned (.tuple #[]) ∧
        Hid (∃ role' s', DiskOK w3 role' D s' ∧ Stp role role' w w3 ∧ abs s' = { abs s with fs := insA (dropA (dropA (abs s).fs t) u) { f.a with name := u } }))) := by
  have hF := h.each f (List.mem_of_getElem? hi)
  refine (drop_any h t).mono ?_
  rintro r w1 ⟨rfl, role1, v1, hd1, hr1⟩
  have hF1 := hF.row h hr1
  have hs1 := hr1.stp h
  refine ⟨rfl, ?_⟩
  refine (drop_any hd1 u).mono ?_
  rintro r w2 ⟨rfl, role2, v2, hd2, hr2⟩
  have hF2 := hF1.row hd1 hr2
  have hs2 := hr2.stp hd1
  refine ⟨rfl, blk_cell hF2.blk (by rw [← ht]; rfl), blk_free hF2.blk, ?_⟩
  have hpn : ∀ g ∈ (s.fs.filter (fun g => cmpS g.a.name t != 0)).filter (fun g => cmpS g.a.name u != 0), g.p ≠ f.p := by
    intro g hg e
    have hg1 := (List.mem_filter.1 (List.mem_filter.1 hg).1)
    obtain ⟨j, hj⟩ := List.getElem?_of_mem hg1.1
    obtain ⟨h1, h2⟩ := List.getElem?_eq_some_iff.1 hj
    obtain ⟨h3, h4⟩ := List.getElem?_eq_some_iff.1 hi
    have := List.getElem_inj (xs := s.fs.map (·.p)) (h₀ := by simpa using h1) (h₁ := by simpa using h3) h.nodup
    simp only [List.getElem_map, h2, h4] at this
    have e2 := this.1 e
    subst e2
    rw [hi] at hj
    cases hj
    have := hg1.2
    rw [ht, cmp_self] at this
    cases this
  have hd3 := hd2.out (w' := w2.setCell ⟨f.p, 0, none⟩ (.string u)) hF2.rp hpn (by simp [World.setCell]) (fun k hk => Below.heap_setCell w2 _ _ k hk)
  have hF3 := hF2.rename u
  have hs3 := Stp.file hd2 hF2 0 (.string u)
  have hlen : (s.fs.filter (fun g => cmpS g.a.name t != 0)).length + 1 = s.fs.length := by
    rw [← drop_abs h.sorted hi ht]
    have := (List.getElem?_eq_some_iff.1 hi).1
    simp; omega
  have hlen2 := List.length_filter_le (fun g : FRep => cmpS g.a.name u != 0) (s.fs.filter (fun g => cmpS g.a.name t != 0))
  have hn1 : nchs (s.fs.filter (fun g => cmpS g.a.name t != 0)) + f.a.chs.length = nchs s.fs := by
    rw [← drop_abs h.sorted hi ht]
    obtain ⟨h1, h2⟩ := List.getElem?_eq_some_iff.1 hi
    have hsp : s.fs = s.fs.take i ++ f :: s.fs.drop (i + 1) := by rw [← h2, ← List.drop_eq_getElem_cons h1, List.take_append_drop]
    conv => rhs; rw [hsp]
    unfold nchs
    simp; omega
  have hn2 := nchs_filter (fun g => cmpS g.a.name u != 0) (s.fs.filter (fun g => cmpS g.a.name t != 0))
  refine (insert_any hd3 hF3 hpn (fun g hg => ?_) ?_ ?_).mono ?_
  · have := (List.mem_filter.1 hg).2
    simpa using this
  · have := h.few
    show ((s.fs.filter (fun g => cmpS g.a.name t != 0)).filter (fun g => cmpS g.a.name u != 0)).length < 4096
    omega
  · have := h.nch
    show (nchs ((s.fs.filter (fun g => cmpS g.a.name t != 0)).filter (fun g => cmpS g.a.name u != 0)) : Int) + f.a.chs.length ≤ s.ops
    omega
  · rintro r w3 ⟨rfl, role3, v3, fs3, hd4, hr4, hfs⟩
    refine ⟨rfl, role3, _, hd4, ((hs1.trans hs2).trans hs3).trans (hr4.stp hd3), ?_⟩
    simp only [abs, hfs, abs_drop]

set_option maxHeartbeats 1000000 in
set_option maxRecDepth 100000 in
theorem rename_D {w : World} {role : Role} {D : Nat} {s : DSt} (h : DiskOK w role D s) (ho : s.ops < 1099511627776) (t u : ByteArray) :
    Calls Try.prog 35 #[.pointer (some ⟨D, 0, none⟩), .string t, .string u] w (Done w role D (renameA (abs s) t u)) := by
  have hb := beginOn_D h ho t
  clear h ho
  go_enter Try.func35, Try.ntmps35
  go_wp2_with fail
  refine hb.mono ?_
  rintro r w1 ⟨v, e, role1, s1, rfl, hd1, hs1, hon⟩
  clear hb
  rcases hon with ⟨he, rfl, hon⟩ | ⟨rfl, f, i, rfl, hi, hfn, hnc, hon⟩
  · have hq : (e != 0) = true := by simp [he]
    have HF : Hid (Done w role D (renameA (abs s) t u) (.returned (.int .i64 e)) w1) := by
      unfold renameA
      rw [hon]
      exact ⟨rfl, role1, s1, hd1, hs1, rfl⟩
    clear hon hd1 hs1 he
    go_wp2
    go_ret
    exact HF.out
  · have HW : Hid (renameA (abs s) t u = if okName u = false then (abs s1, 15) else if t = u then (abs s1, 0) else ({ abs s1 with fs := insA (dropA (dropA (abs s1).fs t) u) { f.a with name := u } }, 0)) := hon _
    simp only [ptrV]
    have hnm := isName_any u w1
    have HD1 := hideP hd1
    have HS1 := hideP hs1
    have HI := hideP hi
    have HT := hideP hfn
    clear hd1 hs1 hon hi hfn
    go_wp2_with fail
    refine hnm.mono ?_
    rintro r w2 ⟨rfl, hb2⟩
    clear hnm
    have hd2 := HD1.out.still hb2
    have hs2 := HS1.out.trans (Stp.still hb2)
    cases hok : okName u with
    | false =>
      have HF : Hid (Done w role D (renameA (abs s) t u) (.returned (.int .i64 15)) w2) := by
        rw [HW.out, if_pos hok]
        exact ⟨rfl, role1, s1, hd2, hs2, rfl⟩
      clear hd2 hs2 hok hb2
      go_wp2
      go_ret
      exact HF.out
    | true =>
      by_cases htu : t = u
      · subst htu
        have HF : Hid (Done w role D (renameA (abs s) t t) (.returned (.int .i64 0)) w2) := by
          rw [HW.out, if_neg (by simp [hok]), if_pos rfl]
          exact ⟨rfl, role1, s1, hd2, hs2, rfl⟩
        have hse : (t.toList == t.toList) = true := by simp
        clear hd2 hs2 hok hb2
        go_wp2
        go_ret
        exact HF.out
      · have hse : (t.toList == u.toList) = false := by
          rw [beq_eq_false_iff_ne]
          intro e
          apply htu
          apply ByteArray.ext
          apply Array.ext'
          simpa [ByteArray.toList_eq] using e
        have hrt := rename_tail (u := u) hd2 HI.out HT.out
        have HR := hideP hrt
        have HX : Hid (∀ w3, (∃ role' s', DiskOK w3 role' D s' ∧ Stp role1 role' w2 w3 ∧ abs s' = { abs s1 with fs := insA (dropA (dropA (abs s1).fs t) u) { f.a with name := u } }) → Done w role D (renameA (abs s) t u) (.returned (.int .i64 0)) w3) := by
          rintro w3 ⟨role', s', q1, q2, q3⟩
          rw [HW.out, if_neg (by simp [hok]), if_neg htu]
          exact ⟨rfl, role', s', q1, hs2.trans q2, q3⟩
        clear hd2 hs2 hok hb2 hrt htu
        go_wp2_with fail
        refine HR.out.mono ?_
        rintro r w3 ⟨rfl, HR2⟩
        go_wp2_with fail
        refine HR2.out.mono ?_
        rintro r w4 ⟨rfl, c1, c2, HR3⟩
        go_wp2_with fail
        refine HR3.out.mono ?_
        rintro r w5 ⟨rfl, HF⟩
        go_wp2
        go_ret
        exact HX.out _ HF.out

end Go.Proofs.Ytcceaokldphfgaa
