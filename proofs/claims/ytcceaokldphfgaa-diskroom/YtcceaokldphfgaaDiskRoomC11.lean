/- YtcceaokldphfgaaDiskRoomC11 -/
import Derived.Deep.RegionHeld3
import Derived.Test.YtcceaokldphfgaaDiskRoomC10
namespace Go.Proofs.Ytcceaokldphfgaa
open Go.RowKit Go.Shelf

theorem total_any {w : World} {role : Role} {D : Nat} {s : DSt} (h : DiskOK w role D s) :
    Calls Try.prog 77 #[.pointer (some ⟨D, 0, none⟩)] w fun e w' => e = .returned (.int .i64 (totalF s.fs)) ∧ Below w.heap.size w w' :=
  callsIn_wide.1 (total_in h 10 (by omega))

theorem totalF_le {w : World} {role : Role} {D : Nat} {s : DSt} (h : DiskOK w role D s) : totalF s.fs ≤ 1099511627776 := by
  have h1 := sumLen_le (fs := s.fs) (fun f hf => (h.each f hf).ldata) s.fs.attach
  rw [sumLen_attach] at h1
  have := h.few
  simp only [List.length_attach] at h1
  omega

/-- Whether there is no room for an operation that makes the data longer by that much. -/
def fullB (s : DSt) (more : Int) : Bool := decide (s.ops ∈ s.full) || (decide (0 < s.room) && decide (0 < more) && decide (s.room < totalF s.fs + more))

theorem DiskOK.drewN {w : World} {role : Role} {D : Nat} {s : DSt} (h : DiskOK w role D s) (nq : Nat) : DiskOK (w.drewN nq) role D s :=
  h.grown (row := none) ⟨rfl, rfl, rfl, Nat.le_refl _, fun _ _ _ => rfl⟩ (fun r e => by cases e)

set_option maxHeartbeats 1000000 in
set_option maxRecDepth 100000 in
theorem isFull_any {w : World} {role : Role} {D : Nat} {s : DSt} (h : DiskOK w role D s) (more : Int) (hm : -1099511627776 ≤ more ∧ more ≤ 1099511627776) :
    Calls Try.prog 60 #[.pointer (some ⟨D, 0, none⟩), .int .i64 more] w fun e w' => e = .returned (.bool (fullB s more)) ∧ Below w.heap.size w w' := by
  have hcf : w.cell? ⟨D, 5, none⟩ = some s.fullV := blk_cell h.blk rfl
  have hco : w.cell? ⟨D, 7, none⟩ = some (.int .i64 s.ops) := blk_cell h.blk rfl
  have hcr : w.cell? ⟨D, 6, none⟩ = some (.int .i64 s.room) := blk_cell h.blk rfl
  have hcon := fun nq => contains_any s.fullV s.full s.ops (w.drewN nq) ((h.drewN nq).full.rd) h.full.len
  have hiR := h.iR
  have htl := totalF_le h
  have HD : Hid (DiskOK w role D s) := h
  clear h
  obtain ⟨hm1, hm2⟩ := hm
  obtain ⟨hR1, hR2⟩ := hiR
  by_cases hin : s.ops ∈ s.full
  · have HF : Hid (fullB s more = true) := by show _ = _; simp [fullB, hin]
    have hd : decide (s.ops ∈ s.full) = true := by simp [hin]
    rw [hd] at hcon
    clear hin hd
    go_enter Try.func60, Try.ntmps60
    go_wp2
    go_quiet ((go_at_call 75; exact Calls.quiet_of_same (hcon _)))
    go_wp2
    go_ret
    exact ⟨by rw [HF.out]; rfl, below_drewN (Below.refl _ _) _⟩
  · have hd : decide (s.ops ∈ s.full) = false := by simp [hin]
    rw [hd] at hcon
    by_cases hr : 0 < s.room
    · have hr' : decide (0 < s.room) = true := by simp [hr]
      by_cases hmo : 0 < more
      · have hmo' : decide (0 < more) = true := by simp [hmo]
        have HF : Hid (fullB s more = decide (s.room < totalF s.fs + more)) := by show _ = _; simp [fullB, hin, hr, hmo]
        have hDlt : D < w.heap.size := HD.out.dom _ _ HD.out.rD
        have htot : ∀ nq, Calls Try.prog 77 #[.pointer (some ⟨D, 0, none⟩)] (w.drewN nq).drew fun e w' => e = .returned (.int .i64 (totalF s.fs)) ∧ w'.cell? ⟨D, 6, none⟩ = some (.int .i64 s.room) ∧ Below w.heap.size w w' := fun nq => by
          have hd2 : DiskOK (w.drewN nq).drew role D s := (HD.out.drewN nq).grown (row := none) ⟨rfl, rfl, rfl, Nat.le_refl _, fun _ _ _ => rfl⟩ (fun r e => by cases e)
          refine (total_any hd2).mono ?_
          rintro e w' ⟨rfl, hb⟩
          have hb' : Below w.heap.size w w' := ⟨hb.os, hb.tape, hb.output, hb.size, hb.block⟩
          exact ⟨rfl, (hb'.cell (p := ⟨D, 6, none⟩) hDlt).trans hcr, hb'⟩
        have HT : Hid (∀ nq, Calls Try.prog 77 #[.pointer (some ⟨D, 0, none⟩)] (w.drewN nq).drew fun e w' => e = .returned (.int .i64 (totalF s.fs)) ∧ w'.cell? ⟨D, 6, none⟩ = some (.int .i64 s.room) ∧ Below w.heap.size w w') := htot
        clear htot
        clear hin hd
        go_enter Try.func60, Try.ntmps60
        go_wp2
        go_quiet ((go_at_call 75; exact Calls.quiet_of_same (hcon _)))
        go_wp2
        go_region_held3 (fun w' => w'.cell? ⟨D, 6, none⟩ = some (.int .i64 s.room)) (go_keep) (first | (go_at_call 77; refine (HT.out _).mono ?_; rintro e w1 ⟨rfl, hc1, hb1⟩))
        have hwr : IntKind.i64.wrap ((totalF s.fs : Int) + more) = (totalF s.fs : Int) + more := by rw [IntKind.wrap_i64]; omega
        rw [hwr]
        have HB : Hid (Below w.heap.size w w1) := hb1
        clear hwr hb1 hc1
        go_wp2
        go_ret
        exact ⟨by rw [HF.out]; rfl, HB.out⟩
      · have hmo' : decide (0 < more) = false := by simp [hmo]
        have HF : Hid (fullB s more = false) := by show _ = _; simp [fullB, hin, hmo]
        clear hin hd hr'
        go_enter Try.func60, Try.ntmps60
        go_wp2
        go_quiet ((go_at_call 75; exact Calls.quiet_of_same (hcon _)))
        go_wp2
        go_quiet (fail)
        go_wp2
        go_ret
        exact ⟨by rw [HF.out]; rfl, below_drewN (below_drewN (Below.refl _ _) _) _⟩
    · have hr' : decide (0 < s.room) = false := by simp [hr]
      have HF : Hid (fullB s more = false) := by show _ = _; simp [fullB, hin, hr]
      clear hin hd
      go_enter Try.func60, Try.ntmps60
      go_wp2
      go_quiet ((go_at_call 75; exact Calls.quiet_of_same (hcon _)))
      go_wp2
      go_quiet (fail)
      go_wp2
      go_ret
      exact ⟨by rw [HF.out]; rfl, below_drewN (below_drewN (Below.refl _ _) _) _⟩

end Go.Proofs.Ytcceaokldphfgaa
