/- YtcceaokldphfgaaDiskSyncedC17 -/
import Derived.Test.YtcceaokldphfgaaDiskSyncedC16
namespace Go.Proofs.Ytcceaokldphfgaa
open Go.RowKit Go.Shelf

/-- How an operation begins: the disk behind it, and its error. -/
def BeginR (s s' : DSt) (e : Int) : Prop :=
  (s.dead = true ∧ e = 10 ∧ s' = s) ∨
  (s.dead = false ∧ s.ops + 1 = s.crash ∧ e = 10 ∧ s' = { bump s with dead := true, fs := s'.fs } ∧ s'.fs.map (·.a) = dieAll s.keep 0 (s.fs.map (·.a))) ∨
  (s.dead = false ∧ s.ops + 1 ≠ s.crash ∧ e = (if s.ops + 1 ∈ s.fail then 11 else 0) ∧ s' = bump s)

theorem begin_any {w : World} {role : Role} {D : Nat} {s : DSt} (h : DiskOK w role D s) (ho : s.ops < 1099511627776) :
    Calls Try.prog 57 #[.pointer (some ⟨D, 0, none⟩)] w fun r w' => ∃ role' s' e, r = .returned (.int .i64 e) ∧ DiskOK w' role' D s' ∧ Stp role role' w w' ∧ BeginR s s' e := by
  cases hd : s.dead with
  | true =>
    refine (begin_dead h hd).mono ?_
    rintro r w' ⟨rfl, rfl⟩
    exact ⟨role, s, 10, rfl, h, Stp.refl _ _, .inl ⟨hd, rfl, rfl⟩⟩
  | false =>
    by_cases hc : s.ops + 1 = s.crash
    · refine (begin_crash h hd ho hc).mono ?_
      rintro r w' ⟨rfl, role', s', h1, h2, h3, h4⟩
      exact ⟨role', s', 10, rfl, h1, h2, .inr (.inl ⟨hd, hc, rfl, h3, h4⟩)⟩
    · refine (begin_on h hd ho hc (decide (s.ops + 1 ∈ s.fail)) rfl).mono ?_
      rintro r w' ⟨rfl, h1, h2⟩
      exact ⟨role, _, _, rfl, h1, h2, .inr (.inr ⟨hd, hc, by simp, rfl⟩)⟩

set_option maxHeartbeats 400000 in
set_option maxRecDepth 100000 in
theorem look_dead {w : World} {role : Role} {D : Nat} {s : DSt} (h : DiskOK w role D s) (hd : s.dead = true) (t : ByteArray) :
    Calls Try.prog 45 #[.pointer (some ⟨D, 0, none⟩), .string t] w fun r w' => r = .returned (.tuple #[.pointer none, .int .i64 10]) ∧ w = w' := by
  have hc := dDead h true hd
  clear h hd
  go_enter Try.func45, Try.ntmps45
  go_wp2_with (go_at_call 20; refine hc.mono ?_; rintro e w' ⟨rfl, rfl⟩)
  go_ret2
  exact ⟨rfl, rfl⟩

set_option maxHeartbeats 400000 in
set_option maxRecDepth 100000 in
theorem look_live {w : World} {role : Role} {D : Nat} {s : DSt} (h : DiskOK w role D s) (hd : s.dead = false) (t : ByteArray) :
    Calls Try.prog 45 #[.pointer (some ⟨D, 0, none⟩), .string t] w fun r w' => r = .returned (.tuple #[fileV (findF s.fs t), .int .i64 (if (findF s.fs t).isSome then 0 else 13)]) ∧ w = w' := by
  have hc := dDead h false hd
  have hf := dFind h t
  clear h hd
  cases hff : findF s.fs t with
  | none =>
    rw [hff] at hf
    simp only [fileV] at hf ⊢
    clear hff
    go_enter Try.func45, Try.ntmps45
    go_wp2_with (first | (go_at_call 20; refine hc.mono ?_; rintro e w' ⟨rfl, rfl⟩) | (go_at_call 59; refine hf.mono ?_; rintro e w' ⟨rfl, rfl⟩))
    go_ret2
    exact ⟨rfl, rfl⟩
  | some f =>
    rw [hff] at hf
    simp only [fileV, ptrV] at hf ⊢
    clear hff
    go_enter Try.func45, Try.ntmps45
    go_wp2_with (first | (go_at_call 20; refine hc.mono ?_; rintro e w' ⟨rfl, rfl⟩) | (go_at_call 59; refine hf.mono ?_; rintro e w' ⟨rfl, rfl⟩))
    go_ret2
    exact ⟨rfl, rfl⟩

/-- How an operation on a file begins. -/
def OnR (s s' : DSt) (t : ByteArray) (v : Value) (e : Int) : Prop :=
  (∃ e', BeginR s s' e' ∧ e' ≠ 0 ∧ e = e' ∧ v = .pointer none) ∨
  (BeginR s s' 0 ∧ v = fileV (findF s'.fs t) ∧ e = (if (findF s'.fs t).isSome then 0 else 13))

theorem BeginR.live {s s' : DSt} (h : BeginR s s' 0) : s'.dead = false ∧ s' = bump s := by
  rcases h with ⟨_, h, _⟩ | ⟨_, _, h, _⟩ | ⟨h1, _, _, h2⟩
  · simp at h
  · simp at h
  · exact ⟨by rw [h2]; exact h1, h2⟩

set_option maxHeartbeats 400000 in
set_option maxRecDepth 100000 in
theorem beginOn_any {w : World} {role : Role} {D : Nat} {s : DSt} (h : DiskOK w role D s) (ho : s.ops < 1099511627776) (t : ByteArray) :
    Calls Try.prog 54 #[.pointer (some ⟨D, 0, none⟩), .string t] w fun r w' => ∃ role' s' v e, r = .returned (.tuple #[v, .int .i64 e]) ∧ DiskOK w' role' D s' ∧ Stp role role' w w' ∧ OnR s s' t v e := by
  have hb := begin_any h ho
  clear h ho
  go_enter Try.func54, Try.ntmps54
  go_wp2_with fail
  refine hb.mono ?_
  rintro r w1 ⟨role', s', e, rfl, hd, hs, hr⟩
  by_cases he : e = 0
  · subst he
    have hl := look_live hd hr.live.1 t
    have HF : Hid (∃ role' s'' v e, (.tuple #[fileV (findF s'.fs t), .int .i64 (if (findF s'.fs t).isSome then 0 else 13)] : Value) = .tuple #[v, .int .i64 e] ∧ DiskOK w1 role' D s'' ∧ Stp role role' w w1 ∧ OnR s s'' t v e) := ⟨role', s', _, _, rfl, hd, hs, .inr ⟨hr, rfl, rfl⟩⟩
    generalize fileV (findF s'.fs t) = fv at *
    generalize (if (findF s'.fs t).isSome then (0 : Int) else 13) = ev at *
    have HL := hideP hl
    clear hl hd hs hr hb
    go_wp2_with fail
    refine HL.out.mono ?_
    rintro r w2 ⟨rfl, rfl⟩
    go_wp2
    go_ret2
    obtain ⟨role', s'', v, e, h1, h2⟩ := HF.out
    exact ⟨role', s'', v, e, by rw [← h1]; rfl, h2⟩
  · have hq : (e != 0) = true := by simp [he]
    have HF : Hid (∃ role' s'' v e', (.tuple #[.pointer none, .int .i64 e] : Value) = .tuple #[v, .int .i64 e'] ∧ DiskOK w1 role' D s'' ∧ Stp role role' w w1 ∧ OnR s s'' t v e') := ⟨role', s', _, _, rfl, hd, hs, .inl ⟨e, hr, he, rfl, rfl⟩⟩
    clear hd hs hr hb he
    go_wp2
    go_ret2
    obtain ⟨role', s'', v, e, h1, h2⟩ := HF.out
    exact ⟨role', s'', v, e, by rw [← h1]; rfl, h2⟩

end Go.Proofs.Ytcceaokldphfgaa
