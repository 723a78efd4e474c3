/-
  Bytes, words and numbers that came in as arguments; the tables that the door lays.
-/
import Derived.Test.YtaeadndihchbnaaDoorCards
import Derived.Test.YtaeadndihchbnaaDoorTie
import Derived.ProofKit
import Derived.SizedLaws
import Derived.OpenShut
import Derived.ChangeSlices
import Derived.LaidMore
import Derived.Stop.Joined
import Derived.Deep.CondSized
import Derived.Test.YtaeadndihchbnaaDoorGasOpsC20
namespace Go.Proofs.YtaeadndihchbnaaDoor
open Go.ChangeShapes Go.WideShapes Go.ChangeAt Go.RowKit Go.Shelf

def lb (b : List Nat) : Nat → Nat := fun j => b.getD j 0

/-- What the rows list as laid. -/
abbrev laidG {H : Type} : List (String × DataW H) := [("math/bits.deBruijn32tab", Rows.laid_math_bits_deBruijn32tab), ("math/bits.deBruijn64tab", Rows.laid_math_bits_deBruijn64tab), ("internal/strconv.uint64pow10", Rows.laid_internal_strconv_uint64pow10)]

set_option maxRecDepth 100000 in
theorem door_met (os : Os) (args : Array Value) : laidMetH Tryd.prog laidG ((World.doorLaid Tryd.prog 24 os).forCall (fun _ _ => 0) ⟨#[], args, []⟩).memory :=
  laidMetH_of_parts3 (fuel := 8) (laidMet_of_run' 8 (by kernel_rfl) (by kernel_rfl)) (by kernel_rfl) (by kernel_rfl)

theorem Tryd.own : ownKnob Tryd.prog.godebug = none := by kernel_rfl

theorem Tryd.laidOut : laidOutB Tryd.prog = true := by kernel_rfl

theorem Tryd.und5 : Tryd.prog.underlying 5 = some (.int .u8) := by kernel_rfl

theorem u8_nat {n : Int} (h : (Lit.int .u8 n).wf = true) : ∃ k : Nat, n = k ∧ k < 256 := by
  have := bounds_u8 h
  exact ⟨n.toNat, by omega, by omega⟩

section
variable {H : Type} {enc : TypeId × Value → H} {W : World}

set_option maxRecDepth 100000 in
/-- A byte that came in. -/
theorem u8_open {base : Nat} {v : Value} {d : DataW H} {p : List MemPlace} (hok : Value.okWide Tryd.prog W .any base 5 v) (h : DataW.Trod enc Tryd.prog W 0 (fun _ => true) true 5 v d p) : ∃ X : Nat, v = .int .u8 X ∧ X < 256 := by
  obtain ⟨fuel, hf⟩ := h
  obtain ⟨n, hn, _, hw⟩ := DataW.trod_int Tryd.und5 hf
  obtain ⟨k, rfl, hk⟩ := u8_nat hw
  obtain ⟨m, rfl⟩ := okWide_int Tryd.und5 hok
  exact ⟨k, by simpa [Value.cells] using hn, hk⟩

end

end Go.Proofs.YtaeadndihchbnaaDoor
