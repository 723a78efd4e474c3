/-
  The five primes of 256 bits, in a row.
-/
import Derived.Test.YtiekipkmfopdoaaPrim
import Derived.Test.YtiekipkmfopdoaaCerts
namespace Go.Proofs.Ytiekipkmfopdoaa
open Go.RowKit Go.Shelf

/-- The primes of 256 bits. -/
def prm : Nat → Nat
  | 0 => nSecpP
  | 1 => nSecpN
  | 2 => nBnP
  | 3 => nBnR
  | _ => nBlsR

/-- They are odd, and of 256 bits; Fermat's law. -/
theorem prm_ok : ∀ j, j < 5 → prm j < W4.R ∧ prm j % 2 = 1 ∧ 3 ≤ prm j ∧ Ferm (prm j)
  | 0, _ => ⟨by decide, by decide, by decide, fermatSecpP⟩
  | 1, _ => ⟨by decide, by decide, by decide, fermatSecpN⟩
  | 2, _ => ⟨by decide, by decide, by decide, fermatBnP⟩
  | 3, _ => ⟨by decide, by decide, by decide, fermatBnR⟩
  | 4, _ => ⟨by decide, by decide, by decide, fermatBlsR⟩
  | k + 5, h => absurd h (by omega)

/-- Their limbs. -/
def pcs : Array Value := W4.cs (limb (prm 0)) ++ W4.cs (limb (prm 1)) ++ W4.cs (limb (prm 2)) ++ W4.cs (limb (prm 3)) ++ W4.cs (limb (prm 4))

theorem pcs_at {w : World} {g t : Nat} (h : w.heap[g]? = some (.cells pcs t (0, 0))) : ∀ j, j < 5 → w.rangeAt g (j * 4) (W4.cs (limb (prm j))).toList
  | 0, _ => World.rangeAt_of_block h 0 4
  | 1, _ => World.rangeAt_of_block h 4 4
  | 2, _ => World.rangeAt_of_block h 8 4
  | 3, _ => World.rangeAt_of_block h 12 4
  | 4, _ => World.rangeAt_of_block h 16 4
  | k + 5, h => absurd h (by omega)

set_option maxHeartbeats 4000000 in
set_option maxRecDepth 100000 in
theorem primes4_any (w : World) : Calls Try.prog 68 #[] w fun r w' => (∃ g, r = .returned (.slice (some ⟨g, 0, none⟩) 5 5) ∧ w'.heap[g]? = some (.cells pcs 24 (0, 0))) ∧ Below w.heap.size w w' := by
  have c1 := fSecpP_any
  have c2 := fSecpN_any
  have c3 := fBnP_any
  have c4 := fBnR_any
  have c5 := fBlsR_any
  unfold W4.cs at c1 c2 c3 c4 c5
  have C1 := hideP c1
  have C2 := hideP c2
  have C3 := hideP c3
  have C4 := hideP c4
  have C5 := hideP c5
  clear c1 c2 c3 c4 c5
  go_enter Try.func68, Try.ntmps68
  go_wp2_with fail
  refine (C1.out _).mono ?_
  rintro r w1 ⟨rfl, hb⟩
  have HB := hideP hb
  clear hb
  go_wp2_with fail
  refine (C2.out _).mono ?_
  rintro r w2 ⟨rfl, hb⟩
  replace HB := hideP (HB.out.trans (hb.mono HB.out.size))
  clear hb
  go_wp2_with fail
  refine (C3.out _).mono ?_
  rintro r w3 ⟨rfl, hb⟩
  replace HB := hideP (HB.out.trans (hb.mono HB.out.size))
  clear hb
  go_wp2_with fail
  refine (C4.out _).mono ?_
  rintro r w4 ⟨rfl, hb⟩
  replace HB := hideP (HB.out.trans (hb.mono HB.out.size))
  clear hb
  go_wp2_with fail
  refine (C5.out _).mono ?_
  rintro r w5 ⟨rfl, hb⟩
  replace HB := hideP (HB.out.trans (hb.mono HB.out.size))
  clear hb C1 C2 C3 C4 C5
  go_wp2
  go_ret
  refine ⟨⟨_, rfl, ?_⟩, HB.out.trans (((Below.refl _ _).alloc (Nat.le_refl _) _).mono HB.out.size)⟩
  exact heap_new _ _

end Go.Proofs.Ytiekipkmfopdoaa
