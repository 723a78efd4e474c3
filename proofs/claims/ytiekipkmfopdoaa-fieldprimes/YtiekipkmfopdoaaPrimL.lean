/-
  The six primes are those of the curves.
-/
import Derived.Test.YtiekipkmfopdoaaPrim
import Derived.Test.YtiekipkmfopdoaaAwake
namespace Go.Proofs.Ytiekipkmfopdoaa
open Go.RowKit Go.Shelf

set_option maxHeartbeats 4000000 in
set_option maxRecDepth 100000 in
theorem fieldPrimes_any (w : World) : Calls Try.prog 3 #[] w fun r w' => r = .returned (.bool true) ∧ Below w.heap.size w w' := by
  have qSecpP := fun V => W4.eq_same (X := nSecpP) (by decide) V
  have qSecpN := fun V => W4.eq_same (X := nSecpN) (by decide) V
  have qBnP := fun V => W4.eq_same (X := nBnP) (by decide) V
  have qBnR := fun V => W4.eq_same (X := nBnR) (by decide) V
  have qBlsP := fun V => W6.eq_same (X := nBlsP) (by decide) V
  have qBlsR := fun V => W4.eq_same (X := nBlsR) (by decide) V
  have FSecpP := hideP fSecpP_any
  have RSecpP := hideP rSecpP_any
  have FSecpN := hideP fSecpN_any
  have RSecpN := hideP rSecpN_any
  have FBnP := hideP fBnP_any
  have RBnP := hideP rBnP_any
  have FBnR := hideP fBnR_any
  have RBnR := hideP rBnR_any
  have FBlsP := hideP fBlsP_any
  have RBlsP := hideP rBlsP_any
  have FBlsR := hideP fBlsR_any
  have RBlsR := hideP rBlsR_any
  go_enter Try.func3, Try.ntmps3
  go_wp2_with fail
  refine (W4.awake_any _).mono ?_
  rintro r w0 ⟨rfl, hb⟩
  have HB := hideP hb
  clear hb
  go_wp2_with fail
  refine (FSecpP.out _).mono ?_
  rintro r a0 ⟨rfl, hb⟩
  replace HB := hideP (HB.out.trans (hb.mono HB.out.size))
  clear hb
  go_wp2_with fail
  refine (RSecpP.out _).mono ?_
  rintro r b0 ⟨⟨g0, rfl, hg⟩, hb⟩
  replace HB := hideP (HB.out.trans (hb.mono HB.out.size))
  have HG0 := hideP hg
  clear hb hg
  go_wp2_with fail
  refine (W4.array_any _ _ _ HG0.out).mono ?_
  rintro r c0 ⟨rfl, hb⟩
  replace HB := hideP (HB.out.trans (hb.mono HB.out.size))
  clear hb HG0
  go_wp2_with fail
  refine (FSecpN.out _).mono ?_
  rintro r a1 ⟨rfl, hb⟩
  replace HB := hideP (HB.out.trans (hb.mono HB.out.size))
  clear hb
  go_wp2_with fail
  refine (RSecpN.out _).mono ?_
  rintro r b1 ⟨⟨g1, rfl, hg⟩, hb⟩
  replace HB := hideP (HB.out.trans (hb.mono HB.out.size))
  have HG1 := hideP hg
  clear hb hg
  go_wp2_with fail
  refine (W4.array_any _ _ _ HG1.out).mono ?_
  rintro r c1 ⟨rfl, hb⟩
  replace HB := hideP (HB.out.trans (hb.mono HB.out.size))
  clear hb HG1
  go_wp2_with fail
  refine (FBnP.out _).mono ?_
  rintro r a2 ⟨rfl, hb⟩
  replace HB := hideP (HB.out.trans (hb.mono HB.out.size))
  clear hb
  go_wp2_with fail
  refine (RBnP.out _).mono ?_
  rintro r b2 ⟨⟨g2, rfl, hg⟩, hb⟩
  replace HB := hideP (HB.out.trans (hb.mono HB.out.size))
  have HG2 := hideP hg
  clear hb hg
  go_wp2_with fail
  refine (W4.array_any _ _ _ HG2.out).mono ?_
  rintro r c2 ⟨rfl, hb⟩
  replace HB := hideP (HB.out.trans (hb.mono HB.out.size))
  clear hb HG2
  go_wp2_with fail
  refine (FBnR.out _).mono ?_
  rintro r a3 ⟨rfl, hb⟩
  replace HB := hideP (HB.out.trans (hb.mono HB.out.size))
  clear hb
  go_wp2_with fail
  refine (RBnR.out _).mono ?_
  rintro r b3 ⟨⟨g3, rfl, hg⟩, hb⟩
  replace HB := hideP (HB.out.trans (hb.mono HB.out.size))
  have HG3 := hideP hg
  clear hb hg
  go_wp2_with fail
  refine (W4.array_any _ _ _ HG3.out).mono ?_
  rintro r c3 ⟨rfl, hb⟩
  replace HB := hideP (HB.out.trans (hb.mono HB.out.size))
  clear hb HG3
  go_wp2_with fail
  refine (FBlsP.out _).mono ?_
  rintro r a4 ⟨rfl, hb⟩
  replace HB := hideP (HB.out.trans (hb.mono HB.out.size))
  clear hb
  go_wp2_with fail
  refine (RBlsP.out _).mono ?_
  rintro r b4 ⟨⟨g4, rfl, hg⟩, hb⟩
  replace HB := hideP (HB.out.trans (hb.mono HB.out.size))
  have HG4 := hideP hg
  clear hb hg
  go_wp2_with fail
  refine (W6.array_any _ _ _ HG4.out).mono ?_
  rintro r c4 ⟨rfl, hb⟩
  replace HB := hideP (HB.out.trans (hb.mono HB.out.size))
  clear hb HG4
  go_wp2_with fail
  refine (FBlsR.out _).mono ?_
  rintro r a5 ⟨rfl, hb⟩
  replace HB := hideP (HB.out.trans (hb.mono HB.out.size))
  clear hb
  go_wp2_with fail
  refine (RBlsR.out _).mono ?_
  rintro r b5 ⟨⟨g5, rfl, hg⟩, hb⟩
  replace HB := hideP (HB.out.trans (hb.mono HB.out.size))
  have HG5 := hideP hg
  clear hb hg
  go_wp2_with fail
  refine (W4.array_any _ _ _ HG5.out).mono ?_
  rintro r c5 ⟨rfl, hb⟩
  replace HB := hideP (HB.out.trans (hb.mono HB.out.size))
  clear hb HG5
  go_wp2
  go_ret
  exact ⟨rfl, HB.out⟩

end Go.Proofs.Ytiekipkmfopdoaa
