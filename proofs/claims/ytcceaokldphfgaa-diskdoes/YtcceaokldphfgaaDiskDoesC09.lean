/- YtcceaokldphfgaaDiskDoesC09 -/
import Derived.Test.YtcceaokldphfgaaDiskDoesC08
namespace Go.Proofs.Ytcceaokldphfgaa
open Go.RowKit Go.Shelf

theorem die_any {w : World} {role : Role} {D : Nat} {s : DSt} (h : DiskOK w role D s) :
    Calls Try.prog 56 #[.pointer (some ⟨D, 0, none⟩)] w fun e w' => (∃ v, e = .returned v) ∧ ∃ role' s', DiskOK w' role' D s' ∧ Stp role role' w w' ∧
      s' = { s with dead := true, fs := s'.fs } ∧ s'.fs.map (·.a) = dieAll s.keep 0 (s.fs.map (·.a)) :=
  callsIn_wide.1 (die_in h 10 (by omega))

theorem dDead {w : World} {role : Role} {D : Nat} {s : DSt} (h : DiskOK w role D s) (d : Bool) (hd : s.dead = d) :
    Calls Try.prog 20 #[.pointer (some ⟨D, 0, none⟩)] w fun e w' => e = .returned (.bool d) ∧ w = w' := by
  have := dead_any D true s.dead w h.cells.1 h.cells.2.1
  rw [hd] at this
  refine this.mono ?_
  rintro e w' ⟨rfl, h⟩
  exact ⟨by simp, h.symm⟩

set_option maxHeartbeats 400000 in
set_option maxRecDepth 100000 in
theorem begin_dead {w : World} {role : Role} {D : Nat} {s : DSt} (h : DiskOK w role D s) (hd : s.dead = true) :
    Calls Try.prog 57 #[.pointer (some ⟨D, 0, none⟩)] w fun e w' => e = .returned (.int .i64 10) ∧ w' = w := by
  have hc := dDead h true hd
  clear h hd
  go_enter Try.func57, Try.ntmps57
  go_wp2_with (go_at_call 20; refine hc.mono ?_; rintro e w' ⟨rfl, rfl⟩)
  go_ret
  exact ⟨rfl, rfl⟩

/-- One operation more is counted. -/
def bump (s : DSt) : DSt := { s with ops := s.ops + 1 }

theorem DiskOK.bump {w : World} {role : Role} {D : Nat} {s : DSt} (h : DiskOK w role D s) (ho : s.ops < 1099511627776) :
    DiskOK (w.setCell ⟨D, 7, none⟩ (.int .i64 (s.ops + 1))) role D (bump s) ∧ Stp role role w (w.setCell ⟨D, 7, none⟩ (.int .i64 (s.ops + 1))) :=
  h.setHead (s' := Ytcceaokldphfgaa.bump s) (o := 7) rfl ⟨rfl, rfl, rfl, rfl⟩ ⟨rfl, rfl, rfl, rfl⟩ h.iC h.iR (by have := h.iO; simp only [Ytcceaokldphfgaa.bump]; omega) (by have := h.nch; simp only [Ytcceaokldphfgaa.bump]; omega)

set_option maxHeartbeats 1000000 in
set_option maxRecDepth 100000 in
theorem begin_crash {w : World} {role : Role} {D : Nat} {s : DSt} (h : DiskOK w role D s) (hd : s.dead = false) (ho : s.ops < 1099511627776) (hcr : s.ops + 1 = s.crash) :
    Calls Try.prog 57 #[.pointer (some ⟨D, 0, none⟩)] w fun e w' => e = .returned (.int .i64 10) ∧ ∃ role' s', DiskOK w' role' D s' ∧ Stp role role' w w' ∧
      s' = { bump s with dead := true, fs := s'.fs } ∧ s'.fs.map (·.a) = dieAll s.keep 0 (s.fs.map (·.a)) := by
  have hc := dDead h false hd
  obtain ⟨hb, hs⟩ := h.bump ho
  have hco : w.cell? ⟨D, 7, none⟩ = some (.int .i64 s.ops) := blk_cell h.blk rfl
  have hfo : w.frozen? ⟨D, 7, none⟩ = false := blk_free h.blk
  have h7 : (w.setCell ⟨D, 7, none⟩ (.int .i64 (s.ops + 1))).cell? ⟨D, 7, none⟩ = some (.int .i64 (s.ops + 1)) := blk_cell hb.blk rfl
  have h2 : (w.setCell ⟨D, 7, none⟩ (.int .i64 (s.ops + 1))).cell? ⟨D, 2, none⟩ = some (.int .i64 s.crash) := blk_cell hb.blk rfl
  have hdie := fun nq => die_any (hb.drewN nq)
  have hi0 := h.iO
  obtain ⟨hi1, hi2⟩ := hi0
  have HS : Hid (Stp role role w (w.setCell ⟨D, 7, none⟩ (.int .i64 (s.ops + 1)))) := hs
  have hcb : (s.ops + 1 == s.crash) = true := by simp [hcr]
  have HDI := hideP hdie
  clear h hd hb hs hcr hdie
  go_enter Try.func57, Try.ntmps57
  go_wp2_with (go_at_call 20; refine hc.mono ?_; rintro e w' ⟨rfl, rfl⟩)
  go_quiet (fail)
  go_wp2_with fail
  refine (HDI.out _).mono ?_
  rintro e w1 ⟨⟨v, rfl⟩, role', s', q1, q2, q3, q4⟩
  have HQ : Hid (∃ role' s', DiskOK w1 role' D s' ∧ Stp role role' w w1 ∧ s' = { bump s with dead := true, fs := s'.fs } ∧ s'.fs.map (·.a) = dieAll s.keep 0 (s.fs.map (·.a))) := ⟨role', s', q1, HS.out.trans q2.of_drewN, q3, q4⟩
  clear q1 q2 q3 q4
  go_wp2
  go_ret
  exact ⟨rfl, HQ.out⟩

set_option maxHeartbeats 1000000 in
set_option maxRecDepth 100000 in
theorem begin_on {w : World} {role : Role} {D : Nat} {s : DSt} (h : DiskOK w role D s) (hd : s.dead = false) (ho : s.ops < 1099511627776) (hcr : s.ops + 1 ≠ s.crash) (b : Bool) (hb : decide (s.ops + 1 ∈ s.fail) = b) :
    Calls Try.prog 57 #[.pointer (some ⟨D, 0, none⟩)] w fun e w' => e = .returned (.int .i64 (if b then 11 else 0)) ∧ DiskOK w' role D (bump s) ∧ Stp role role w w' := by
  have hc := dDead h false hd
  obtain ⟨hbd, hs⟩ := h.bump ho
  have hco : w.cell? ⟨D, 7, none⟩ = some (.int .i64 s.ops) := blk_cell h.blk rfl
  have hfo : w.frozen? ⟨D, 7, none⟩ = false := blk_free h.blk
  have h7 : (w.setCell ⟨D, 7, none⟩ (.int .i64 (s.ops + 1))).cell? ⟨D, 7, none⟩ = some (.int .i64 (s.ops + 1)) := blk_cell hbd.blk rfl
  have h2 : (w.setCell ⟨D, 7, none⟩ (.int .i64 (s.ops + 1))).cell? ⟨D, 2, none⟩ = some (.int .i64 s.crash) := blk_cell hbd.blk rfl
  have h4 : (w.setCell ⟨D, 7, none⟩ (.int .i64 (s.ops + 1))).cell? ⟨D, 4, none⟩ = some s.failV := blk_cell hbd.blk rfl
  have hcon : ∀ V : World, V.heap = (w.setCell ⟨D, 7, none⟩ (.int .i64 (s.ops + 1))).heap → Calls Try.prog 75 #[s.failV, .int .i64 (s.ops + 1)] V fun e w' => e = .returned (.bool b) ∧ w' = V := by
    intro V hV
    rw [← hb]
    exact contains_any s.failV s.fail (s.ops + 1) V (hbd.fail.rd.same (by rw [hV]; exact Nat.le_refl _) (fun a n c _ _ => by rw [hV])) h.fail.len
  have hi0 := h.iO
  obtain ⟨hi1, hi2⟩ := hi0
  have HS := hideP hs
  have HB := hideP hbd
  have hcb : (s.ops + 1 == s.crash) = false := by simp [hcr]
  have HCON := hideP hcon
  clear h hd hbd hs hcr hb hcon
  cases b
  all_goals
    go_enter Try.func57, Try.ntmps57
    go_wp2_with (go_at_call 20; refine hc.mono ?_; rintro e w' ⟨rfl, rfl⟩)
    go_quiet (fail)
    go_wp2
    generalize hV : (w.setCell ⟨D, 7, none⟩ (.int .i64 (s.ops + 1))).drewN _ = V
    have hV7 : V.cell? ⟨D, 7, none⟩ = some (.int .i64 (s.ops + 1)) := by rw [← hV]; exact h7
    have hV4 : V.cell? ⟨D, 4, none⟩ = some s.failV := by rw [← hV]; exact h4
    have HV : Hid (V.heap = (w.setCell ⟨D, 7, none⟩ (.int .i64 (s.ops + 1))).heap ∧ DiskOK V role D (bump s) ∧ Stp role role w V) := by
      rw [← hV]
      exact ⟨rfl, HB.out.drewN _, HS.out.trans (Stp.still (below_drewN (Below.refl _ _) _))⟩
    clear hV h7 h4 h2
    go_quiet ((go_at_call 75; exact Calls.quiet_of_same (HCON.out _ HV.out.1)))
    go_wp2
    go_ret
    exact ⟨rfl, HV.out.2.1.drewN _, HV.out.2.2.trans (Stp.still (below_drewN (Below.refl _ _) _))⟩

end Go.Proofs.Ytcceaokldphfgaa

namespace Go.Proofs.Ytcceaokldphfgaa
open Go.RowKit Go.Shelf

/-- How an operation begins: the disk behind it, and its error. -/
def BeginR (s s' : DSt) (e : Int) : Prop :=
  (s.dead = true ∧ e = 10 ∧ s' = s) ∨
  (s.dead = false ∧ s.ops + 1 = s.crash ∧ e = 10 ∧ s' = { bump s with dead := true, fs := s'.fs } ∧ s'.fs.map (·.a) = dieAll s.keep 0 (s.fs.map (·.a))) ∨
  (s.dead = false ∧ s.ops + 1 ≠ s.crash ∧ e = (if s.ops + 1 ∈ s.fail then 11 else 0) ∧ s' = bump s)

theorem begin_any {w : World} {role : Role} {D : Nat} {s : DSt} (h : DiskOK w role D s) (ho : s.ops < 1099511627776) :
    Calls Try.prog 57 #[.pointer (some ⟨D, 0, none⟩)] w fun r w' => ∃ role' s' e, r = .returned (.int .i64 e) ∧ DiskOK w' role' D s' ∧ Stp role role' w w' ∧ BeginR s s' e := by
  cases hd : s.dead with
  | true =>
    refine (begin_dead h hd).mono ?_
    rintro r w' ⟨rfl, rfl⟩
    exact ⟨role, s, 10, rfl, h, Stp.refl _ _, .inl ⟨hd, rfl, rfl⟩⟩
  | false =>
    by_cases hc : s.ops + 1 = s.crash
    · refine (begin_crash h hd ho hc).mono ?_
      rintro r w' ⟨rfl, role', s', h1, h2, h3, h4⟩
      exact ⟨role', s', 10, rfl, h1, h2, .inr (.inl ⟨hd, hc, rfl, h3, h4⟩)⟩
    · refine (begin_on h hd ho hc (decide (s.ops + 1 ∈ s.fail)) rfl).mono ?_
      rintro r w' ⟨rfl, h1, h2⟩
      exact ⟨role, _, _, rfl, h1, h2, .inr (.inr ⟨hd, hc, by simp, rfl⟩)⟩

set_option maxHeartbeats 400000 in
set_option maxRecDepth 100000 in
theorem look_dead {w : World} {role : Role} {D : Nat} {s : DSt} (h : DiskOK w role D s) (hd : s.dead = true) (t : ByteArray) :
    Calls Try.prog 45 #[.pointer (some ⟨D, 0, none⟩), .string t] w fun r w' => r = .returned (.tuple #[.pointer none, .int .i64 10]) ∧ w = w' := by
  have hc := dDead h true hd
  clear h hd
  go_enter Try.func45, Try.ntmps45
  go_wp2_with (go_at_call 20; refine hc.mono ?_; rintro e w' ⟨rfl, rfl⟩)
  go_ret2
  exact ⟨rfl, rfl⟩

set_option maxHeartbeats 400000 in
set_option maxRecDepth 100000 in
theorem look_live {w : World} {role : Role} {D : Nat} {s : DSt} (h : DiskOK w role D s) (hd : s.dead = false) (t : ByteArray) :
    Calls Try.prog 45 #[.pointer (some ⟨D, 0, none⟩), .string t] w fun r w' => r = .returned (.tuple #[fileV (findF s.fs t), .int .i64 (if (findF s.fs t).isSome then 0 else 13)]) ∧ w = w' := by
  have hc := dDead h false hd
  have hf := dFind h t
  clear h hd
  cases hff : findF s.fs t with
  | none =>
    rw [hff] at hf
    simp only [fileV] at hf ⊢
    clear hff
    go_enter Try.func45, Try.ntmps45
    go_wp2_with (first | (go_at_call 20; refine hc.mono ?_; rintro e w' ⟨rfl, rfl⟩) | (go_at_call 59; refine hf.mono ?_; rintro e w' ⟨rfl, rfl⟩))
    go_ret2
    exact ⟨rfl, rfl⟩
  | some f =>
    rw [hff] at hf
    simp only [fileV, ptrV] at hf ⊢
    clear hff
    go_enter Try.func45, Try.ntmps45
    go_wp2_with (first | (go_at_call 20; refine hc.mono ?_; rintro e w' ⟨rfl, rfl⟩) | (go_at_call 59; refine hf.mono ?_; rintro e w' ⟨rfl, rfl⟩))
    go_ret2
    exact ⟨rfl, rfl⟩

/-- How an operation on a file begins. -/
def OnR (s s' : DSt) (t : ByteArray) (v : Value) (e : Int) : Prop :=
  (∃ e', BeginR s s' e' ∧ e' ≠ 0 ∧ e = e' ∧ v = .pointer none) ∨
  (BeginR s s' 0 ∧ v = fileV (findF s'.fs t) ∧ e = (if (findF s'.fs t).isSome then 0 else 13))

theorem BeginR.live {s s' : DSt} (h : BeginR s s' 0) : s'.dead = false ∧ s' = bump s := by
  rcases h with ⟨_, h, _⟩ | ⟨_, _, h, _⟩ | ⟨h1, _, _, h2⟩
  · simp at h
  · simp at h
  · exact ⟨by rw [h2]; exact h1, h2⟩

set_option maxHeartbeats 400000 in
set_option maxRecDepth 100000 in
theorem beginOn_any {w : World} {role : Role} {D : Nat} {s : DSt} (h : DiskOK w role D s) (ho : s.ops < 1099511627776) (t : ByteArray) :
    Calls Try.prog 54 #[.pointer (some ⟨D, 0, none⟩), .string t] w fun r w' => ∃ role' s' v e, r = .returned (.tuple #[v, .int .i64 e]) ∧ DiskOK w' role' D s' ∧ Stp role role' w w' ∧ OnR s s' t v e := by
  have hb := begin_any h ho
  clear h ho
  go_enter Try.func54, Try.ntmps54
  go_wp2_with fail
  refine hb.mono ?_
  rintro r w1 ⟨role', s', e, rfl, hd, hs, hr⟩
  by_cases he : e = 0
  · subst he
    have hl := look_live hd hr.live.1 t
    have HF : Hid (∃ role' s'' v e, (.tuple #[fileV (findF s'.fs t), .int .i64 (if (findF s'.fs t).isSome then 0 else 13)] : Value) = .tuple #[v, .int .i64 e] ∧ DiskOK w1 role' D s'' ∧ Stp role role' w w1 ∧ OnR s s'' t v e) := ⟨role', s', _, _, rfl, hd, hs, .inr ⟨hr, rfl, rfl⟩⟩
    generalize fileV (findF s'.fs t) = fv at *
    generalize (if (findF s'.fs t).isSome then (0 : Int) else 13) = ev at *
    have HL := hideP hl
    clear hl hd hs hr hb
    go_wp2_with fail
    refine HL.out.mono ?_
    rintro r w2 ⟨rfl, rfl⟩
    go_wp2
    go_ret2
    obtain ⟨role', s'', v, e, h1, h2⟩ := HF.out
    exact ⟨role', s'', v, e, by rw [← h1]; rfl, h2⟩
  · have hq : (e != 0) = true := by simp [he]
    have HF : Hid (∃ role' s'' v e', (.tuple #[.pointer none, .int .i64 e] : Value) = .tuple #[v, .int .i64 e'] ∧ DiskOK w1 role' D s'' ∧ Stp role role' w w1 ∧ OnR s s'' t v e') := ⟨role', s', _, _, rfl, hd, hs, .inl ⟨e, hr, he, rfl, rfl⟩⟩
    clear hd hs hr hb he
    go_wp2
    go_ret2
    obtain ⟨role', s'', v, e, h1, h2⟩ := HF.out
    exact ⟨role', s'', v, e, by rw [← h1]; rfl, h2⟩

end Go.Proofs.Ytcceaokldphfgaa

namespace Go.Proofs.Ytcceaokldphfgaa
open Go.RowKit Go.Shelf

/-- What becomes of the disk where a change is asked for. -/
def ChangeR (s s' : DSt) (i : Nat) (f : FRep) (c : Chg) (e : Int) : Prop :=
  s' = { s with fs := s'.fs } ∧ s'.fs.map (·.p) = s.fs.map (·.p) ∧
    ((fullB s (((applyC c f.a.data).length : Int) - f.a.data.length) = true ∧ e = 12 ∧ s'.fs.map (·.a) = s.fs.map (·.a)) ∨
     (fullB s (((applyC c f.a.data).length : Int) - f.a.data.length) = false ∧ e = 0 ∧ s'.fs.map (·.a) = (s.fs.map (·.a)).set i (changeA c f.a)))

/-- Append. -/
def AppendR (s s' : DSt) (t : ByteArray) (l : List UInt8) (e : Int) : Prop :=
  (∃ v, OnR s s' t v e ∧ e ≠ 0) ∨
  ∃ (s1 : DSt) (i : Nat) (f : FRep), OnR s s1 t (ptrV f) 0 ∧ s1.fs[i]? = some f ∧ f.a.name = t ∧
    ((268435456 < f.a.data.length + l.length ∧ e = 2 ∧ s' = s1) ∨ (f.a.data.length + l.length ≤ 268435456 ∧ ChangeR s1 s' i f (.inl (f.a.data.length, l)) e))

theorem OnR.found {s s' : DSt} {t : ByteArray} {v : Value} (h : OnR s s' t v 0) : BeginR s s' 0 ∧ ∃ (f : FRep) (i : Nat), v = ptrV f ∧ s'.fs[i]? = some f ∧ f.a.name = t ∧ findF s'.fs t = some f := by
  rcases h with ⟨e', _, h2, h3, _⟩ | ⟨h1, h2, h3⟩
  · exact absurd h3.symm h2
  · refine ⟨h1, ?_⟩
    cases hf : findF s'.fs t with
    | none => rw [hf] at h3; simp at h3
    | some f =>
      rw [hf] at h2
      have hm := List.mem_of_find?_eq_some hf
      obtain ⟨i, hi⟩ := List.getElem?_of_mem hm
      have hn := List.find?_some hf
      exact ⟨f, i, h2, hi, cmpS_zero.1 (by simpa using hn), rfl⟩

theorem BeginR.nch {w : World} {role : Role} {D : Nat} {s s' : DSt} (hs : DiskOK w role D s) (h : BeginR s s' 0) : (nchs s'.fs : Int) + 1 ≤ s'.ops := by
  obtain ⟨_, e⟩ := h.live
  rw [e]
  have := hs.nch
  simp only [bump]
  omega

/-- Bytes that lie beside the disk. -/
def Beside (role : Role) (v : Value) : Prop := ∀ a n c, v = .slice (some a) n c → role a.block = none

theorem Rd.stp {w w' : World} {role role' : Role} {v : Value} {l : List UInt8} (h : Rd w v l) (hb : Beside role v) (hs : Stp role role' w w') : Rd w' v l :=
  h.same (fun a n c e hc => hs.keep _ (by obtain ⟨cs, t, fr, hk⟩ := hc; exact (Array.getElem?_eq_some_iff.1 hk).1) (.inl (hb a n c e)))

theorem write_length (l xs : List UInt8) : (applyC (.inl (xs.length, l)) xs).length = xs.length + l.length := by
  simp only [applyC]; rw [length_applyW]; omega

set_option maxHeartbeats 1000000 in
set_option maxRecDepth 100000 in
theorem append_any {w : World} {role : Role} {D : Nat} {s : DSt} (h : DiskOK w role D s) (ho : s.ops < 1099511627776) (t : ByteArray) (bv : Value) (l : List UInt8) (hrd : Rd w bv l) (hbs : Beside role bv) (hl : l.length ≤ 140737488355328) :
    Calls Try.prog 30 #[.pointer (some ⟨D, 0, none⟩), .string t, bv] w fun r w' => ∃ role' s' e, r = .returned (.int .i64 e) ∧ DiskOK w' role' D s' ∧ Stp role role' w w' ∧ AppendR s s' t l e := by
  have hb := beginOn_any h ho t
  have HN : Hid (∀ s', BeginR s s' 0 → (nchs s'.fs : Int) + 1 ≤ s'.ops) := fun s' hr => hr.nch h
  obtain ⟨ab, cb, hbe, _⟩ := id hrd
  have HRD := hideP hrd
  have HBS := hideP hbs
  clear h ho hrd hbs
  subst hbe
  go_enter Try.func30, Try.ntmps30
  go_wp2_with fail
  refine hb.mono ?_
  rintro r w1 ⟨role1, s1, v, e, rfl, hd1, hs1, hon⟩
  by_cases he : e = 0
  · subst he
    obtain ⟨hbg, f, i, rfl, hi, hfn, _⟩ := hon.found
    have hF := hd1.each f (List.mem_of_getElem? hi)
    have hcd : w1.cell? ⟨f.p, 3, none⟩ = some f.dataV := blk_cell hF.blk rfl
    obtain ⟨av, cv, hv, _⟩ := own_slice hF.odata
    rw [hv] at hcd
    have hld := hF.ldata
    have hrd1 := HRD.out.stp HBS.out hs1
    have HON := hideP hon
    have HD1 := hideP hd1
    have HS1 := hideP hs1
    have HI := hideP hi
    have HFN := hideP hfn
    have HBG := hideP hbg
    simp only [ptrV]
    by_cases hlong : 268435456 < f.a.data.length + l.length
    · have HF : Hid (∃ role' s' e, (.int .i64 2 : Value) = .int .i64 e ∧ DiskOK w1 role' D s' ∧ Stp role role' w w1 ∧ AppendR s s' t l e) := ⟨role1, s1, 2, rfl, hd1, hs1, .inr ⟨s1, i, f, hon, hi, hfn, .inl ⟨hlong, rfl, rfl⟩⟩⟩
      clear hon hd1 hs1 hi hfn hbg hF hrd1 hv hb
      go_wp2
      go_ret
      obtain ⟨role', s', e, q1, q2⟩ := HF.out
      exact ⟨role', s', e, by rw [← q1]; rfl, q2⟩
    · have hlong' : f.a.data.length + l.length ≤ 268435456 := by omega
      have hcp := copyBytes_any _ l w1 hrd1 (by omega)
      clear hon hd1 hs1 hi hfn hbg hF hrd1 hv hb
      go_wp2_with fail
      refine hcp.mono ?_
      rintro r w2 ⟨rfl, ho2, hb2⟩
      have hd2 := HD1.out.below hb2 (6, 0)
      have hrd2 := Rd.of_own (own_base ho2)
      have hlt2 := (ho2.lt w1.heap.size rfl).2
      have hch : ChgAt w2 (extR role1 w1 w2 (6, 0)) (.inl (f.a.data.length, l)) (.iface 106 (.agg #[.int .i64 f.a.data.length, .slice (some ⟨w1.heap.size, 0, none⟩) l.length l.length])) :=
        ⟨_, rfl, hrd2, fun a n c e => by cases e; exact extR_new (Nat.le_refl _) hlt2, hlong'⟩
      have hchg := change_any hd2 HI.out hch (f.a.data.length + l.length) (write_length l f.a.data).symm (HN.out s1 HBG.out)
      have hchg2 : Calls Try.prog 62 #[.pointer (some ⟨D, 0, none⟩), .pointer (some ⟨f.p, 0, none⟩), .iface 106 (.agg #[.int .i64 f.a.data.length, .slice (some ⟨w1.heap.size, 0, none⟩) l.length l.length]), .int .i64 ((f.a.data.length : Int) + (l.length : Int))] w2 fun r w' => ∃ e, r = .returned (.int .i64 e) ∧ Hid (∃ role' s', DiskOK w' role' D s' ∧ Stp role role' w w' ∧ AppendR s s' t l e) := by
        have e1 : ((f.a.data.length + l.length : Nat) : Int) = (f.a.data.length : Int) + (l.length : Int) := by omega
        rw [← e1]
        refine hchg.mono ?_
        rintro r w' ⟨role', s', q1, q2, q3, q4, q5⟩
        have hst := (HS1.out.trans (Stp.ofBelow (6, 0) hb2)).trans q2
        have hw := write_length l f.a.data
        rcases q5 with ⟨g1, rfl, g2⟩ | ⟨g1, rfl, g2⟩
        · exact ⟨12, rfl, role', s', q1, hst, .inr ⟨s1, i, f, HON.out, HI.out, HFN.out, .inr ⟨hlong', q3, q4, .inl ⟨by rw [hw]; exact g1, rfl, g2⟩⟩⟩⟩
        · exact ⟨0, rfl, role', s', q1, hst, .inr ⟨s1, i, f, HON.out, HI.out, HFN.out, .inr ⟨hlong', q3, q4, .inr ⟨by rw [hw]; exact g1, rfl, g2⟩⟩⟩⟩
      have HC := hideP hchg2
      clear hchg hchg2 hch hrd2 hd2 ho2 hb2 hcp hlt2
      go_wp2_with fail
      refine HC.out.mono ?_
      rintro r w3 ⟨e, rfl, HF⟩
      go_wp2
      go_ret
      obtain ⟨role', s', q1, q2, q3⟩ := HF.out
      exact ⟨role', s', e, rfl, q1, q2, q3⟩
  · have hq : (e != 0) = true := by simp [he]
    have HF : Hid (∃ role' s' e', (.int .i64 e : Value) = .int .i64 e' ∧ DiskOK w1 role' D s' ∧ Stp role role' w w1 ∧ AppendR s s' t l e') := ⟨role1, s1, e, rfl, hd1, hs1, .inl ⟨v, hon, he⟩⟩
    clear hon hd1 hs1 hb he
    go_wp2
    go_ret
    obtain ⟨role', s', e, q1, q2⟩ := HF.out
    exact ⟨role', s', e, by rw [← q1]; rfl, q2⟩

end Go.Proofs.Ytcceaokldphfgaa
