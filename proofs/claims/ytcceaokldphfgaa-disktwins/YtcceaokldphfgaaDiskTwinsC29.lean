/- YtcceaokldphfgaaDiskTwinsC29 -/
import Derived.Test.YtcceaokldphfgaaDiskTwinsC28
namespace Go.Proofs.Ytcceaokldphfgaa
open Go.RowKit Go.Shelf

theorem begin_D {w : World} {role : Role} {D : Nat} {s : DSt} (h : DiskOK w role D s) (ho : s.ops < 1099511627776) :
    Calls Try.prog 57 #[.pointer (some ⟨D, 0, none⟩)] w fun r w' => ∃ role' s' e, r = .returned (.int .i64 e) ∧ DiskOK w' role' D s' ∧ Stp role role' w w' ∧ beginA (abs s) = (abs s', e) := by
  refine (begin_any h ho).mono ?_
  rintro r w' ⟨role', s', e, h1, h2, h3, h4⟩
  exact ⟨role', s', e, h1, h2, h3, h4.fn⟩

/-- The role of a new file. -/
def roleF (role : Role) (p : Nat) : Role := fun k => if k = p then some (2, p) else role k

theorem fresh_file {w : World} {role : Role} {D p : Nat} {s : DSt} {t : ByteArray} (h : DiskOK w role D s) (hp : role p = none) (hb : w.heap[p]? = some (.cells #[.string t, .slice none 0 0, .slice none 0 0, .slice none 0 0] 87 (0, 0))) :
    DiskOK w (roleF role p) D s ∧ FileOK w (roleF role p) (newF p t) := by
  have hr : ∀ k q, role k = some q → roleF role p k = some q := fun k q e => by
    unfold roleF
    rw [if_neg (fun e' => by subst e'; rw [hp] at e; cases e)]
    exact e
  refine ⟨h.kept (Nat.le_refl _) (fun _ _ _ _ => rfl) hr (fun k q e => ?_), ?_⟩
  · unfold roleF at e
    split at e
    · rename_i e'; subst e'; exact (Array.getElem?_eq_some_iff.1 hb).1
    · exact h.dom k q e
  · exact {
      rp := by unfold roleF; exact if_pos rfl
      blk := hb
      osafe := World.ownsRow_nil _ _ _ _
      rsafe := fun g e => by simp [newF, Value.ownBlock] at e
      odata := World.ownsRow_nil _ _ _ _
      rdata := fun g e => by simp [newF, Value.ownBlock] at e
      och := ⟨[], World.ownsRow_nil _ _ _ _, fun j c hj => by simp [newF] at hj⟩
      rch := fun g e => by simp [newF, Value.ownBlock] at e
      lsafe := by simp [newF]
      ldata := by simp [newF] }

theorem no_role {w : World} {role : Role} {D : Nat} {s : DSt} (h : DiskOK w role D s) {k : Nat} (hk : w.heap.size ≤ k) : role k = none := by
  cases e : role k with
  | none => rfl
  | some q => have := h.dom k q e; omega

theorem create_ins {w : World} {role : Role} {D : Nat} {s : DSt} {t : ByteArray} (h : DiskOK w role D s) (hno : findF s.fs t = none) (hfew : s.fs.length < 4096) :
    Calls Try.prog 61 #[.pointer (some ⟨D, 0, none⟩), .pointer (some ⟨w.heap.size, 0, none⟩)] (w.alloc (.cells #[.string t, .slice none 0 0, .slice none 0 0, .slice none 0 0] 87)) fun r w' => r = .returned (.tuple #[]) ∧ Hid (∃ role' s', DiskOK w' role' D s' ∧ Stp role role' w w' ∧ abs s' = { abs s with fs := insA (abs s).fs (newA t) }) := by
  have hb : Below w.heap.size w (w.alloc (.cells #[.string t, .slice none 0 0, .slice none 0 0, .slice none 0 0] 87)) := (Below.refl _ w).alloc (Nat.le_refl _) _
  have hp : role w.heap.size = none := no_role h (Nat.le_refl _)
  obtain ⟨h1, h2⟩ := fresh_file (h.still hb) hp (World.alloc_heap_new w _)
  refine (insert_any h1 h2 (fun g hg e => ?_) (fun g hg e => ?_) hfew (by have := h.nch; simp [newF]; omega)).mono ?_
  · have h3 := (h.each g hg).rp
    have h4 : g.p = w.heap.size := e
    rw [h4, hp] at h3
    cases h3
  · unfold findF at hno
    have := List.find?_eq_none.1 hno g hg
    exact this (by simpa [newF] using e)
  · rintro r w' ⟨rfl, role', v', fs', q1, q2, q3⟩
    have hst := q2.stp h1
    refine ⟨rfl, role', _, q1, ⟨hst.os, hst.tape, hst.output, Nat.le_trans hb.size hst.size, fun k hk => ?_, fun k hk hn => ?_, fun k hk hn => ?_⟩, ?_⟩
    · rw [hst.ext k (Nat.lt_of_lt_of_le hk hb.size)]
      unfold roleF
      rw [if_neg (by omega)]
    · refine (hst.keep k (Nat.lt_of_lt_of_le hk hb.size) ?_).trans (hb.block k hk)
      unfold roleF
      rw [if_neg (by omega)]
      exact hn
    · exact (hst.others k (Nat.lt_of_lt_of_le hk hb.size) (fun hc => hn ((isC_same (hb.block k hk)).1 hc))).trans (hb.block k hk)
    · simp only [abs, q3]
      rfl

set_option maxHeartbeats 1000000 in
set_option maxRecDepth 100000 in
theorem create_D {w : World} {role : Role} {D : Nat} {s : DSt} (h : DiskOK w role D s) (ho : s.ops < 1099511627776) (t : ByteArray) :
    Calls Try.prog 29 #[.pointer (some ⟨D, 0, none⟩), .string t] w (Done w role D (createA (abs s) t)) := by
  have hb := begin_D h ho
  clear h ho
  go_enter Try.func29, Try.ntmps29
  go_wp2_with fail
  refine hb.mono ?_
  rintro r w1 ⟨role1, s1, e, rfl, hd1, hs1, hbg⟩
  clear hb
  have HC : Hid (createA (abs s) t = if e ≠ 0 then (abs s1, e) else if okName t = false then (abs s1, 15) else if (findA (abs s1).fs t).isSome = true then (abs s1, 14) else if 4096 ≤ (abs s1).fs.length then (abs s1, 2) else if fullA (abs s1) 0 = true then (abs s1, 12) else ({ abs s1 with fs := insA (abs s1).fs (newA t) }, 0)) := by
    show createA (abs s) t = _
    unfold createA
    rw [hbg]
  clear hbg
  by_cases he : e = 0
  · subst he
    have hnm := isName_any t w1
    have HD1 := hideP hd1
    have HS1 := hideP hs1
    clear hd1 hs1
    go_wp2_with fail
    refine hnm.mono ?_
    rintro r w2 ⟨rfl, hb2⟩
    clear hnm
    have hd2 := HD1.out.still hb2
    have hs2 := HS1.out.trans (Stp.still hb2)
    cases hok : okName t with
    | false =>
      have HF : Hid (Done w role D (createA (abs s) t) (.returned (.int .i64 15)) w2) := by
        rw [HC.out, if_neg (by simp), if_pos hok]
        exact ⟨rfl, role1, s1, hd2, hs2, rfl⟩
      clear hd2 hs2 hok hb2
      go_wp2
      go_ret
      exact HF.out
    | true =>
      have hfi := dFind hd2 t
      have HD2 := hideP hd2
      have HS2 := hideP hs2
      have hfa : findA (abs s1).fs t = (findF s1.fs t).map (·.a) := find_fn s1.fs t
      cases hf : findF s1.fs t with
      | some f =>
        rw [hf] at hfi hfa
        simp only [fileV, ptrV] at hfi
        have HF : Hid (Done w role D (createA (abs s) t) (.returned (.int .i64 14)) w2) := by
          rw [HC.out, if_neg (by simp), if_neg (by simp [hok]), if_pos (by rw [hfa]; rfl)]
          exact ⟨rfl, role1, s1, hd2, hs2, rfl⟩
        have HFI := hideP hfi
        clear hd2 hs2 hok hb2 hfi hf hfa
        go_wp2_with fail
        refine HFI.out.mono ?_
        rintro r w3 ⟨rfl, hw3⟩
        subst hw3
        go_wp2
        go_ret
        exact HF.out
      | none =>
        rw [hf] at hfi hfa
        simp only [fileV] at hfi
        have hc8 := hd2.cells.2.2
        obtain ⟨av, cv, hv, _⟩ := own_slice hd2.files
        rw [hv] at hc8
        have HFI := hideP hfi
        by_cases hmany : 4096 ≤ s1.fs.length
        · have HF : Hid (Done w role D (createA (abs s) t) (.returned (.int .i64 2)) w2) := by
            rw [HC.out, if_neg (by simp), if_neg (by simp [hok]), if_neg (by rw [hfa]; simp), if_pos (by simpa [abs] using hmany)]
            exact ⟨rfl, role1, s1, hd2, hs2, rfl⟩
          clear hd2 hs2 hok hb2 hfi hf hfa hv
          go_wp2_with fail
          refine HFI.out.mono ?_
          rintro r w3 ⟨rfl, hw3⟩
          subst hw3
          go_wp2
          go_ret
          exact HF.out
        · have hfull := isFull_any hd2 0 (by omega)
          rw [full_fn] at hfull
          have HFL := hideP hfull
          have HF0 := hideP hf
          have HX : Hid (createA (abs s) t = if fullA (abs s1) 0 = true then (abs s1, 12) else ({ abs s1 with fs := insA (abs s1).fs (newA t) }, 0)) := by
            show createA (abs s) t = _
            rw [HC.out, if_neg (by simp), if_neg (by simp [hok]), if_neg (by rw [hfa]; simp), if_neg (by simpa [abs] using hmany)]
          clear hd2 hs2 hok hb2 hfi hf hfa hv hfull
          go_wp2_with fail
          refine HFI.out.mono ?_
          rintro r w3 ⟨rfl, hw3⟩
          subst hw3
          go_wp2_with fail
          refine HFL.out.mono ?_
          rintro r w4 ⟨rfl, hb4⟩
          have hd4 := HD2.out.still hb4
          have hs4 := HS2.out.trans (Stp.still hb4)
          cases hfb : fullA (abs s1) 0 with
          | true =>
            have HF : Hid (Done w role D (createA (abs s) t) (.returned (.int .i64 12)) w4) := by
              rw [HX.out, if_pos hfb]
              exact ⟨rfl, role1, s1, hd4, hs4, rfl⟩
            clear hd4 hs4 hb4 hfb
            go_wp2
            go_ret
            exact HF.out
          | false =>
            have HIN : Hid (Calls Try.prog 61 #[.pointer (some ⟨D, 0, none⟩), .pointer (some ⟨w4.heap.size, 0, none⟩)] (w4.alloc (.cells #[.string t, .slice none 0 0, .slice none 0 0, .slice none 0 0] 87)) fun r w' => r = .returned (.tuple #[]) ∧ Hid (Done w role D (createA (abs s) t) (.returned (.int .i64 0)) w')) := by
              refine (create_ins hd4 HF0.out (by omega)).mono ?_
              rintro r w' ⟨rfl, role', s', q1, q2, q3⟩
              refine ⟨rfl, ?_⟩
              rw [HX.out, if_neg (by simp [hfb])]
              exact ⟨rfl, role', s', q1, hs4.trans q2, q3⟩
            clear hd4 hs4 hb4 hfb
            go_wp2_with fail
            refine HIN.out.mono ?_
            rintro r w6 ⟨rfl, HF⟩
            go_wp2
            go_ret
            exact HF.out
  · have hq : (e != 0) = true := by simp [he]
    have HF : Hid (Done w role D (createA (abs s) t) (.returned (.int .i64 e)) w1) := by
      rw [HC.out, if_pos he]
      exact ⟨rfl, role1, s1, hd1, hs1, rfl⟩
    clear hd1 hs1 he
    go_wp2
    go_ret
    exact HF.out

end Go.Proofs.Ytcceaokldphfgaa
