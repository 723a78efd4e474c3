/-
  Bytes, words and numbers that came in as arguments; the tables that the door lays.
-/
import Derived.Test.YtaeadndihchbnaaDoorCards
import Derived.Test.YtaeadndihchbnaaDoorTie
import Derived.ProofKit
import Derived.SizedLaws
import Derived.OpenShut
import Derived.ChangeSlices
import Derived.LaidMore
import Derived.Stop.Joined
import Derived.Deep.CondSized
import Derived.Test.YtaeadndihchbnaaDoorGasRefundsC20
namespace Go.Proofs.YtaeadndihchbnaaDoor
open Go.ChangeShapes Go.WideShapes Go.ChangeAt Go.RowKit Go.Shelf

def lb (b : List Nat) : Nat → Nat := fun j => b.getD j 0

/-- What the rows list as laid. -/
abbrev laidG {H : Type} : List (String × DataW H) := [("math/bits.deBruijn32tab", Rows.laid_math_bits_deBruijn32tab), ("math/bits.deBruijn64tab", Rows.laid_math_bits_deBruijn64tab), ("internal/strconv.uint64pow10", Rows.laid_internal_strconv_uint64pow10)]

set_option maxRecDepth 100000 in
theorem door_met (os : Os) (args : Array Value) : laidMetH Tryd.prog laidG ((World.doorLaid Tryd.prog 24 os).forCall (fun _ _ => 0) ⟨#[], args, []⟩).memory :=
  laidMetH_of_parts3 (fuel := 8) (laidMet_of_run' 8 (by kernel_rfl) (by kernel_rfl)) (by kernel_rfl) (by kernel_rfl)

theorem Tryd.own : ownKnob Tryd.prog.godebug = none := by kernel_rfl

theorem Tryd.laidOut : laidOutB Tryd.prog = true := by kernel_rfl

theorem Tryd.cellsW : Tryd.prog.cellsOf 30 = 4 := by kernel_rfl

theorem Tryd.cellsU : Tryd.prog.cellsOf 22 = 1 := by kernel_rfl

theorem Tryd.undW : Tryd.prog.underlying 30 = some (.array 4 22) := by kernel_rfl

theorem Tryd.undU : Tryd.prog.underlying 22 = some (.int .u64) := by kernel_rfl

theorem four_cells {α : Type} {cs : Array α} (h : cs.size = 4) : ∃ c0 c1 c2 c3, cs = #[c0, c1, c2, c3] := by
  match cs, h with
  | ⟨[c0, c1, c2, c3]⟩, _ => exact ⟨c0, c1, c2, c3, rfl⟩

theorem u64_nat {n : Int} (h : (Lit.int .u64 n).wf = true) : ∃ k : Nat, n = k ∧ k < 18446744073709551616 := by
  have := bounds_u64 h
  exact ⟨n.toNat, by omega, by omega⟩

theorem okWide_array {P : Program} {w : World} {r : Reach} {base n : Nat} {t e : TypeId} {v : Value} (ht : P.underlying t = some (.array n e)) (h : Value.okWide P w r base t v) : ∃ cs, v = .agg cs ∧ cs.size = P.cellsOf t := by
  unfold Value.okWide at h
  rw [ht] at h
  obtain ⟨cs, h1, h2, _⟩ := h
  exact ⟨cs, h1, h2⟩

section
variable {H : Type} {enc : TypeId × Value → H} {W : World}

set_option maxRecDepth 100000 in
/-- A word that came in. -/
theorem word_open {base : Nat} {v : Value} {d : DataW H} {p : List MemPlace} (hok : Value.okWide Tryd.prog W .any base 30 v) (h : DataW.Trod enc Tryd.prog W 0 (fun _ => true) true 30 v d p) : ∃ X : Nat, v = wv X ∧ X < M256 := by
  obtain ⟨cs, rfl, hsz⟩ := okWide_array Tryd.undW hok
  obtain ⟨c0, c1, c2, c3, rfl⟩ := four_cells (hsz.trans Tryd.cellsW)
  obtain ⟨fuel, hf⟩ := h
  obtain ⟨xs, m, _, hx, _, hl, hi⟩ := DataW.trod_array Tryd.undW hf
  have g : ∀ i, i < 4 → ∃ n : Nat, n < 18446744073709551616 ∧ ((#[c0, c1, c2, c3] : Array Value).toList.drop i).take 1 = [.int .u64 n] := by
    intro i hi4
    have := hi i hi4
    rw [Tryd.cellsU, Nat.mul_one, List.getElem?_eq_getElem (by omega)] at this
    obtain ⟨n, hn, _, hw⟩ := DataW.trod_int Tryd.undU this
    obtain ⟨k, rfl, hk⟩ := u64_nat hw
    exact ⟨k, hk, hn⟩
  obtain ⟨n0, b0, e0⟩ := g 0 (by omega)
  obtain ⟨n1, b1, e1⟩ := g 1 (by omega)
  obtain ⟨n2, b2, e2⟩ := g 2 (by omega)
  obtain ⟨n3, b3, e3⟩ := g 3 (by omega)
  simp only [List.drop_zero, List.drop_succ_cons, List.take_succ_cons, List.take_zero, List.cons.injEq, and_true] at e0 e1 e2 e3
  subst e0 e1 e2 e3
  have h := wv_mk (k := 0) b0 b1 b2 b3
  exact ⟨_ % M256, ((wv_mod _).trans h).symm, Nat.mod_lt _ (by decide)⟩

end

end Go.Proofs.YtaeadndihchbnaaDoor
