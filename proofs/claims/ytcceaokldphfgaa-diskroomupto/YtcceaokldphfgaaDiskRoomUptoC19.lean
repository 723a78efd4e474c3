/- YtcceaokldphfgaaDiskRoomUptoC19 -/
import Derived.Test.YtcceaokldphfgaaDiskRoomUptoC18
namespace Go.Proofs.Ytcceaokldphfgaa
open Go.RowKit Go.Shelf

theorem find_last {fs : List FRep} {t : ByteArray} (hlast : ∀ f ∈ fs, cmpS f.a.name t < 0) : findF fs t = none := by
  unfold findF
  rw [List.find?_eq_none]
  intro f hf
  have := hlast f hf
  simp; omega

set_option maxHeartbeats 1000000 in
set_option maxRecDepth 100000 in
/-- Create of a file behind all others. -/
theorem create_last {w : World} {role : Role} {D : Nat} {s : DSt} {t : ByteArray} (h : DiskOK w role D s) (hd : s.dead = false) (ho : s.ops < 1099511627776) (hcr : s.ops + 1 ≠ s.crash) (hfa : ¬ s.ops + 1 ∈ s.fail) (hfu : ¬ s.ops + 1 ∈ s.full)
    (hok : okName t = true) (hlast : ∀ f ∈ s.fs, cmpS f.a.name t < 0) (hfew : s.fs.length < 4096) :
    Calls Try.prog 29 #[.pointer (some ⟨D, 0, none⟩), .string t] w fun r w' => r = .returned (.int .i64 0) ∧ ∃ role' p v', DiskOK w' role' D { bump s with filesV := v', fs := s.fs ++ [newF p t] } ∧ Stp role role' w w' := by
  have hb := begin_on h hd ho hcr false (by simp [hfa])
  simp only [Bool.false_eq_true, if_false] at hb
  have HOK := hideP hok
  have HLA := hideP hlast
  have HFU := hideP hfu
  clear h hd ho hcr hfa hok hlast hfu
  go_enter Try.func29, Try.ntmps29
  go_wp2_with fail
  refine hb.mono ?_
  rintro r w1 ⟨rfl, hd1, hs1⟩
  have hnm := isName_any t w1
  rw [HOK.out] at hnm
  have HD1 := hideP hd1
  have HS1 := hideP hs1
  clear hd1 hs1 hb
  go_wp2_with fail
  refine hnm.mono ?_
  rintro r w2 ⟨rfl, hb2⟩
  have hd2 := HD1.out.still hb2
  have hfi := dFind hd2 t
  rw [find_last (t := t) (fs := (bump s).fs) HLA.out] at hfi
  simp only [fileV] at hfi
  have hc8 := hd2.cells.2.2
  obtain ⟨av, cv, hv, _⟩ := own_slice hd2.files
  rw [hv] at hc8
  simp only [bump] at hc8
  have hfull := isFull_any hd2 0 (by omega)
  have hfb : fullB (bump s) 0 = false := by
    have := HFU.out
    simp only [fullB, bump]
    simp [this]
  rw [hfb] at hfull
  have HD2 := hideP hd2
  have HB2 := hideP hb2
  have HFI := hideP hfi
  have HFL := hideP hfull
  clear hd2 hb2 hfi hfull hfb hv hnm
  go_wp2_with fail
  refine HFI.out.mono ?_
  rintro r w3 ⟨rfl, hw3⟩
  subst hw3
  go_wp2_with fail
  refine HFL.out.mono ?_
  rintro r w4 ⟨rfl, hb4⟩
  have hd4 := HD2.out.still hb4
  have hb5 : Below w4.heap.size w4 (w4.alloc (.cells #[.string t, .slice none 0 0, .slice none 0 0, .slice none 0 0] 87)) := (Below.refl _ w4).alloc (Nat.le_refl _) _
  have hd5 := hd4.still hb5
  have hst5 : Stp role role w4 (w4.alloc (.cells #[.string t, .slice none 0 0, .slice none 0 0, .slice none 0 0] 87)) := Stp.still hb5
  have hp5 : role w4.heap.size = none := by
    cases e : role w4.heap.size with
    | none => rfl
    | some q => have := hd4.dom _ q e; omega
  have hins := insert_last (wB := w4) (p := w4.heap.size) (t := t) hd5 hp5 (World.alloc_heap_new w4 _) hst5 (Nat.le_refl _) HLA.out hfew
  have HIN : Hid (Calls Try.prog 61 #[.pointer (some ⟨D, 0, none⟩), .pointer (some ⟨w4.heap.size, 0, none⟩)] (w4.alloc (.cells #[.string t, .slice none 0 0, .slice none 0 0, .slice none 0 0] 87)) fun r w' => r = .returned (.tuple #[]) ∧ Hid (∃ role' p v', DiskOK w' role' D { bump s with filesV := v', fs := s.fs ++ [newF p t] } ∧ Stp role role' w w')) := by
    refine hins.mono ?_
    rintro r w' ⟨rfl, role', v', q1, q2⟩
    exact ⟨rfl, role', _, v', q1, ((HS1.out.trans (Stp.still HB2.out)).trans (Stp.still hb4)).trans q2⟩
  clear hins hd5 hst5 hp5 hd4 hb5 hb4
  go_wp2_with fail
  refine HIN.out.mono ?_
  rintro r w6 ⟨rfl, HF⟩
  go_wp2
  go_ret
  exact ⟨rfl, HF.out⟩

end Go.Proofs.Ytcceaokldphfgaa
