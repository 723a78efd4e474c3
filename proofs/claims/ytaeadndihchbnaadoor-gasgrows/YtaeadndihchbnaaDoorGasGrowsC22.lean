/-
  Bytes, words and numbers that came in as arguments; the tables that the door lays.
-/
import Derived.Test.YtaeadndihchbnaaDoorCards
import Derived.Test.YtaeadndihchbnaaDoorTie
import Derived.ProofKit
import Derived.SizedLaws
import Derived.OpenShut
import Derived.ChangeSlices
import Derived.LaidMore
import Derived.Stop.Joined
import Derived.Deep.CondSized
import Derived.Test.YtaeadndihchbnaaDoorGasGrowsC20
namespace Go.Proofs.YtaeadndihchbnaaDoor
open Go.ChangeShapes Go.WideShapes Go.ChangeAt Go.RowKit Go.Shelf

def lb (b : List Nat) : Nat → Nat := fun j => b.getD j 0

/-- What the rows list as laid. -/
abbrev laidG {H : Type} : List (String × DataW H) := [("math/bits.deBruijn32tab", Rows.laid_math_bits_deBruijn32tab), ("math/bits.deBruijn64tab", Rows.laid_math_bits_deBruijn64tab), ("internal/strconv.uint64pow10", Rows.laid_internal_strconv_uint64pow10)]

set_option maxRecDepth 100000 in
theorem door_met (os : Os) (args : Array Value) : laidMetH Tryd.prog laidG ((World.doorLaid Tryd.prog 24 os).forCall (fun _ _ => 0) ⟨#[], args, []⟩).memory :=
  laidMetH_of_parts3 (fuel := 8) (laidMet_of_run' 8 (by kernel_rfl) (by kernel_rfl)) (by kernel_rfl) (by kernel_rfl)

theorem Tryd.own : ownKnob Tryd.prog.godebug = none := by kernel_rfl

theorem Tryd.laidOut : laidOutB Tryd.prog = true := by kernel_rfl

theorem Tryd.undU : Tryd.prog.underlying 22 = some (.int .u64) := by kernel_rfl

theorem u64_nat {n : Int} (h : (Lit.int .u64 n).wf = true) : ∃ k : Nat, n = k ∧ k < 18446744073709551616 := by
  have := bounds_u64 h
  exact ⟨n.toNat, by omega, by omega⟩

section
variable {H : Type} {enc : TypeId × Value → H} {W : World}

set_option maxRecDepth 100000 in
/-- A number of 64 bits that came in. -/
theorem u64_open {base : Nat} {v : Value} {d : DataW H} {p : List MemPlace} (hok : Value.okWide Tryd.prog W .any base 22 v) (h : DataW.Trod enc Tryd.prog W 0 (fun _ => true) true 22 v d p) : ∃ X : Nat, v = .int .u64 X ∧ X < 18446744073709551616 := by
  obtain ⟨fuel, hf⟩ := h
  obtain ⟨n, hn, _, hw⟩ := DataW.trod_int Tryd.undU hf
  obtain ⟨k, rfl, hk⟩ := u64_nat hw
  obtain ⟨m, rfl⟩ := okWide_int Tryd.undU hok
  refine ⟨k, ?_, hk⟩
  simpa [Value.cells] using hn

end

end Go.Proofs.YtaeadndihchbnaaDoor
