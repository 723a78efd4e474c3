/- YtcceaokldphfgaaDiskSyncedC16 -/
import Derived.Test.YtcceaokldphfgaaDiskSyncedC15
namespace Go.Proofs.Ytcceaokldphfgaa
open Go.RowKit Go.Shelf

theorem die_any {w : World} {role : Role} {D : Nat} {s : DSt} (h : DiskOK w role D s) :
    Calls Try.prog 56 #[.pointer (some ⟨D, 0, none⟩)] w fun e w' => (∃ v, e = .returned v) ∧ ∃ role' s', DiskOK w' role' D s' ∧ Stp role role' w w' ∧
      s' = { s with dead := true, fs := s'.fs } ∧ s'.fs.map (·.a) = dieAll s.keep 0 (s.fs.map (·.a)) :=
  callsIn_wide.1 (die_in h 10 (by omega))

theorem dDead {w : World} {role : Role} {D : Nat} {s : DSt} (h : DiskOK w role D s) (d : Bool) (hd : s.dead = d) :
    Calls Try.prog 20 #[.pointer (some ⟨D, 0, none⟩)] w fun e w' => e = .returned (.bool d) ∧ w = w' := by
  have := dead_any D true s.dead w h.cells.1 h.cells.2.1
  rw [hd] at this
  refine this.mono ?_
  rintro e w' ⟨rfl, h⟩
  exact ⟨by simp, h.symm⟩

set_option maxHeartbeats 400000 in
set_option maxRecDepth 100000 in
theorem begin_dead {w : World} {role : Role} {D : Nat} {s : DSt} (h : DiskOK w role D s) (hd : s.dead = true) :
    Calls Try.prog 57 #[.pointer (some ⟨D, 0, none⟩)] w fun e w' => e = .returned (.int .i64 10) ∧ w' = w := by
  have hc := dDead h true hd
  clear h hd
  go_enter Try.func57, Try.ntmps57
  go_wp2_with (go_at_call 20; refine hc.mono ?_; rintro e w' ⟨rfl, rfl⟩)
  go_ret
  exact ⟨rfl, rfl⟩

/-- One operation more is counted. -/
def bump (s : DSt) : DSt := { s with ops := s.ops + 1 }

theorem DiskOK.bump {w : World} {role : Role} {D : Nat} {s : DSt} (h : DiskOK w role D s) (ho : s.ops < 1099511627776) :
    DiskOK (w.setCell ⟨D, 7, none⟩ (.int .i64 (s.ops + 1))) role D (bump s) ∧ Stp role role w (w.setCell ⟨D, 7, none⟩ (.int .i64 (s.ops + 1))) :=
  h.setHead (s' := Ytcceaokldphfgaa.bump s) (o := 7) rfl ⟨rfl, rfl, rfl, rfl⟩ ⟨rfl, rfl, rfl, rfl⟩ h.iC h.iR (by have := h.iO; simp only [Ytcceaokldphfgaa.bump]; omega) (by have := h.nch; simp only [Ytcceaokldphfgaa.bump]; omega)

set_option maxHeartbeats 1000000 in
set_option maxRecDepth 100000 in
theorem begin_crash {w : World} {role : Role} {D : Nat} {s : DSt} (h : DiskOK w role D s) (hd : s.dead = false) (ho : s.ops < 1099511627776) (hcr : s.ops + 1 = s.crash) :
    Calls Try.prog 57 #[.pointer (some ⟨D, 0, none⟩)] w fun e w' => e = .returned (.int .i64 10) ∧ ∃ role' s', DiskOK w' role' D s' ∧ Stp role role' w w' ∧
      s' = { bump s with dead := true, fs := s'.fs } ∧ s'.fs.map (·.a) = dieAll s.keep 0 (s.fs.map (·.a)) := by
  have hc := dDead h false hd
  obtain ⟨hb, hs⟩ := h.bump ho
  have hco : w.cell? ⟨D, 7, none⟩ = some (.int .i64 s.ops) := blk_cell h.blk rfl
  have hfo : w.frozen? ⟨D, 7, none⟩ = false := blk_free h.blk
  have h7 : (w.setCell ⟨D, 7, none⟩ (.int .i64 (s.ops + 1))).cell? ⟨D, 7, none⟩ = some (.int .i64 (s.ops + 1)) := blk_cell hb.blk rfl
  have h2 : (w.setCell ⟨D, 7, none⟩ (.int .i64 (s.ops + 1))).cell? ⟨D, 2, none⟩ = some (.int .i64 s.crash) := blk_cell hb.blk rfl
  have hdie := fun nq => die_any (hb.drewN nq)
  have hi0 := h.iO
  obtain ⟨hi1, hi2⟩ := hi0
  have HS : Hid (Stp role role w (w.setCell ⟨D, 7, none⟩ (.int .i64 (s.ops + 1)))) := hs
  have hcb : (s.ops + 1 == s.crash) = true := by simp [hcr]
  have HDI := hideP hdie
  clear h hd hb hs hcr hdie
  go_enter Try.func57, Try.ntmps57
  go_wp2_with (go_at_call 20; refine hc.mono ?_; rintro e w' ⟨rfl, rfl⟩)
  go_quiet (fail)
  go_wp2_with fail
  refine (HDI.out _).mono ?_
  rintro e w1 ⟨⟨v, rfl⟩, role', s', q1, q2, q3, q4⟩
  have HQ : Hid (∃ role' s', DiskOK w1 role' D s' ∧ Stp role role' w w1 ∧ s' = { bump s with dead := true, fs := s'.fs } ∧ s'.fs.map (·.a) = dieAll s.keep 0 (s.fs.map (·.a))) := ⟨role', s', q1, HS.out.trans q2.of_drewN, q3, q4⟩
  clear q1 q2 q3 q4
  go_wp2
  go_ret
  exact ⟨rfl, HQ.out⟩

set_option maxHeartbeats 1000000 in
set_option maxRecDepth 100000 in
theorem begin_on {w : World} {role : Role} {D : Nat} {s : DSt} (h : DiskOK w role D s) (hd : s.dead = false) (ho : s.ops < 1099511627776) (hcr : s.ops + 1 ≠ s.crash) (b : Bool) (hb : decide (s.ops + 1 ∈ s.fail) = b) :
    Calls Try.prog 57 #[.pointer (some ⟨D, 0, none⟩)] w fun e w' => e = .returned (.int .i64 (if b then 11 else 0)) ∧ DiskOK w' role D (bump s) ∧ Stp role role w w' := by
  have hc := dDead h false hd
  obtain ⟨hbd, hs⟩ := h.bump ho
  have hco : w.cell? ⟨D, 7, none⟩ = some (.int .i64 s.ops) := blk_cell h.blk rfl
  have hfo : w.frozen? ⟨D, 7, none⟩ = false := blk_free h.blk
  have h7 : (w.setCell ⟨D, 7, none⟩ (.int .i64 (s.ops + 1))).cell? ⟨D, 7, none⟩ = some (.int .i64 (s.ops + 1)) := blk_cell hbd.blk rfl
  have h2 : (w.setCell ⟨D, 7, none⟩ (.int .i64 (s.ops + 1))).cell? ⟨D, 2, none⟩ = some (.int .i64 s.crash) := blk_cell hbd.blk rfl
  have h4 : (w.setCell ⟨D, 7, none⟩ (.int .i64 (s.ops + 1))).cell? ⟨D, 4, none⟩ = some s.failV := blk_cell hbd.blk rfl
  have hcon : ∀ V : World, V.heap = (w.setCell ⟨D, 7, none⟩ (.int .i64 (s.ops + 1))).heap → Calls Try.prog 75 #[s.failV, .int .i64 (s.ops + 1)] V fun e w' => e = .returned (.bool b) ∧ w' = V := by
    intro V hV
    rw [← hb]
    exact contains_any s.failV s.fail (s.ops + 1) V (hbd.fail.rd.same (by rw [hV]; exact Nat.le_refl _) (fun a n c _ _ => by rw [hV])) h.fail.len
  have hi0 := h.iO
  obtain ⟨hi1, hi2⟩ := hi0
  have HS := hideP hs
  have HB := hideP hbd
  have hcb : (s.ops + 1 == s.crash) = false := by simp [hcr]
  have HCON := hideP hcon
  clear h hd hbd hs hcr hb hcon
  cases b
  all_goals
    go_enter Try.func57, Try.ntmps57
    go_wp2_with (go_at_call 20; refine hc.mono ?_; rintro e w' ⟨rfl, rfl⟩)
    go_quiet (fail)
    go_wp2
    generalize hV : (w.setCell ⟨D, 7, none⟩ (.int .i64 (s.ops + 1))).drewN _ = V
    have hV7 : V.cell? ⟨D, 7, none⟩ = some (.int .i64 (s.ops + 1)) := by rw [← hV]; exact h7
    have hV4 : V.cell? ⟨D, 4, none⟩ = some s.failV := by rw [← hV]; exact h4
    have HV : Hid (V.heap = (w.setCell ⟨D, 7, none⟩ (.int .i64 (s.ops + 1))).heap ∧ DiskOK V role D (bump s) ∧ Stp role role w V) := by
      rw [← hV]
      exact ⟨rfl, HB.out.drewN _, HS.out.trans (Stp.still (below_drewN (Below.refl _ _) _))⟩
    clear hV h7 h4 h2
    go_quiet ((go_at_call 75; exact Calls.quiet_of_same (HCON.out _ HV.out.1)))
    go_wp2
    go_ret
    exact ⟨rfl, HV.out.2.1.drewN _, HV.out.2.2.trans (Stp.still (below_drewN (Below.refl _ _) _))⟩

end Go.Proofs.Ytcceaokldphfgaa
