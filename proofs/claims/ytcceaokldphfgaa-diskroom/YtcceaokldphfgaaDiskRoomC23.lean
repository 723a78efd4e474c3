/- YtcceaokldphfgaaDiskRoomC23 -/
import Derived.Test.YtcceaokldphfgaaDiskRoomC22
namespace Go.Proofs.Ytcceaokldphfgaa
open Go.RowKit Go.Shelf

theorem Rd.cut {w : World} {g cap n : Nat} {l : List UInt8} (h : w.ownsRow 0 5 1 (.slice (some ⟨g, 0, none⟩) l.length cap) l.length (l.map byteV)) (hn : n ≤ l.length) : Rd w (.slice (some ⟨g, 0, none⟩) n cap) (l.take n) := by
  obtain ⟨a, c, e, _⟩ := own_slice h
  cases e
  exact (Rd.of_own h).take n hn

set_option maxHeartbeats 1000000 in
set_option maxRecDepth 100000 in
/-- Read from the beginning of a file that is there. -/
theorem read_head {w : World} {role : Role} {D : Nat} {s : DSt} {f : FRep} {t : ByteArray} {n : Nat} (h : DiskOK w role D s) (hd : s.dead = false) (hf : findF s.fs t = some f) (hm : f ∈ s.fs) (h0 : 0 < f.a.data.length) (hn : n ≤ f.a.data.length) :
    Calls Try.prog 17 #[.pointer (some ⟨D, 0, none⟩), .string t, .int .i64 0, .int .i64 n] w fun r w' => ∃ b, r = .returned (.tuple #[.slice (some ⟨b, 0, none⟩) n n, .int .i64 0]) ∧ w'.ownsRow w.heap.size 5 1 (.slice (some ⟨b, 0, none⟩) n n) n ((f.a.data.take n).map byteV) ∧ Below w.heap.size w w' := by
  have hl := look_live h hd t
  rw [hf] at hl
  simp only [fileV, ptrV, Option.isSome_some, if_true] at hl
  have hF := h.each f hm
  have hld := hF.ldata
  have hcd : w.cell? ⟨f.p, 3, none⟩ = some f.dataV := blk_cell hF.blk rfl
  rcases hF.odata.2 with ⟨_, e0⟩ | ⟨g, cap, cur, hv, _, _, hnc, hcm, _⟩
  · omega
  have hrd : Rd w (.slice (some ⟨g, 0, none⟩) n cap) (f.a.data.take n) := by
    have ho := hF.odata
    rw [hv] at ho
    exact Rd.cut ho hn
  have hcp := copyBytes_any _ _ w hrd (by simp; omega)
  have e : (f.a.data.take n).length = n := by simp; omega
  rw [e] at hcp
  rw [hv] at hcd
  simp only [maxLen] at hcm
  have hcap : ¬ cap = 0 := by omega
  have HL := hideP hl
  have HC := hideP hcp
  clear h hd hf hm hF hrd hl hcp e hv
  go_enter Try.func17, Try.ntmps17
  go_wp2_with fail
  refine HL.out.mono ?_
  rintro r w1 ⟨rfl, rfl⟩
  go_wp2_with fail
  refine HC.out.mono ?_
  rintro r w2 ⟨rfl, ho, hb⟩
  have HQ := hideP (And.intro ho hb)
  clear ho hb
  go_wp2
  go_ret2
  exact ⟨_, rfl, HQ.out⟩

set_option maxHeartbeats 400000 in
set_option maxRecDepth 100000 in
/-- Sync of a file that is not there. -/
theorem sync_none {w : World} {role : Role} {D : Nat} {s : DSt} {t : ByteArray} (h : DiskOK w role D s) (hd : s.dead = false) (ho : s.ops < 1099511627776) (hcr : s.ops + 1 ≠ s.crash) (hfa : ¬ s.ops + 1 ∈ s.fail) (hf : findF s.fs t = none) :
    Calls Try.prog 26 #[.pointer (some ⟨D, 0, none⟩), .string t] w fun r w' => r = .returned (.int .i64 13) ∧ ∃ role', DiskOK w' role' D (bump s) ∧ Stp role role' w w' := by
  have hb := beginOn_any h ho t
  have hb2 : Calls Try.prog 54 #[.pointer (some ⟨D, 0, none⟩), .string t] w fun r w' => r = .returned (.tuple #[.pointer none, .int .i64 13]) ∧ Hid (∃ role', DiskOK w' role' D (bump s) ∧ Stp role role' w w') := by
    refine hb.mono ?_
    rintro r w' ⟨role', s', v, e, rfl, h1, h2, h3⟩
    rcases h3 with ⟨e', hbr, hne, rfl, rfl⟩ | ⟨hbr, rfl, rfl⟩
    · rcases hbr with ⟨g, _⟩ | ⟨_, g, _⟩ | ⟨_, _, g, _⟩
      · rw [hd] at g; cases g
      · exact absurd g hcr
      · rw [if_neg hfa] at g; exact absurd g hne
    · obtain ⟨_, e⟩ := hbr.live
      subst e
      have : findF (bump s).fs t = none := hf
      rw [this]
      exact ⟨rfl, role', h1, h2⟩
  clear hb h hd ho hcr hfa hf
  go_enter Try.func26, Try.ntmps26
  go_wp2_with fail
  refine hb2.mono ?_
  rintro r w1 ⟨rfl, HF⟩
  go_wp2
  go_ret
  exact ⟨rfl, HF.out⟩

end Go.Proofs.Ytcceaokldphfgaa
