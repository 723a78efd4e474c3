/-
  Numbers of four limbs and of one that came in as arguments.
-/
import Derived.Test.YtiekipkmfopdoaaRows
import Derived.Test.YtiekipkmfopdoaaCel4
import Derived.ProofKit
import Derived.SizedLaws
import Derived.OpenShut
namespace Go.Proofs.Ytiekipkmfopdoaa
open Go.ChangeShapes Go.WideShapes Go.ChangeAt Go.RowKit Go.Shelf

theorem Try.own : ownKnob Try.prog.godebug = none := by kernel_rfl
theorem Try.laidOut : laidOutB Try.prog = true := by kernel_rfl
theorem Try.cellsW : Try.prog.cellsOf 24 = 4 := by kernel_rfl
theorem Try.cellsU : Try.prog.cellsOf 23 = 1 := by kernel_rfl
theorem Try.undW : Try.prog.underlying 24 = some (.array 4 23) := by kernel_rfl
theorem Try.undU : Try.prog.underlying 23 = some (.int .u64) := by kernel_rfl

theorem four_cells {α : Type} {cs : Array α} (h : cs.size = 4) : ∃ c0 c1 c2 c3, cs = #[c0, c1, c2, c3] := by
  match cs, h with
  | ⟨[c0, c1, c2, c3]⟩, _ => exact ⟨c0, c1, c2, c3, rfl⟩

theorem u64_nat {n : Int} (h : (Lit.int .u64 n).wf = true) : ∃ k : Nat, n = k ∧ k < 18446744073709551616 := by
  have := bounds_u64 h
  exact ⟨n.toNat, by omega, by omega⟩

theorem okWide_array {P : Program} {w : World} {r : Reach} {base n : Nat} {t e : TypeId} {v : Value} (ht : P.underlying t = some (.array n e)) (h : Value.okWide P w r base t v) : ∃ cs, v = .agg cs ∧ cs.size = P.cellsOf t := by
  unfold Value.okWide at h
  rw [ht] at h
  obtain ⟨cs, h1, h2, _⟩ := h
  exact ⟨cs, h1, h2⟩

section
variable {H : Type} {enc : TypeId × Value → H} {W : World}

set_option maxRecDepth 100000 in
/-- A number of four limbs that came in. -/
theorem word_open {base : Nat} {v : Value} {d : DataW H} {p : List MemPlace} (hok : Value.okWide Try.prog W .any base 24 v) (h : DataW.Trod enc Try.prog W 0 (fun _ => true) true 24 v d p) : ∃ X : Nat, v = W4.wv X ∧ X < W4.R := by
  obtain ⟨cs, rfl, hsz⟩ := okWide_array Try.undW hok
  obtain ⟨c0, c1, c2, c3, rfl⟩ := four_cells (hsz.trans Try.cellsW)
  obtain ⟨fuel, hf⟩ := h
  obtain ⟨xs, m, _, hx, _, hl, hi⟩ := DataW.trod_array Try.undW hf
  have g : ∀ i, i < 4 → ∃ n : Nat, n < 18446744073709551616 ∧ ((#[c0, c1, c2, c3] : Array Value).toList.drop i).take 1 = [.int .u64 n] := by
    intro i hi4
    have := hi i hi4
    rw [Try.cellsU, Nat.mul_one, List.getElem?_eq_getElem (by omega)] at this
    obtain ⟨n, hn, _, hw⟩ := DataW.trod_int Try.undU this
    obtain ⟨k, rfl, hk⟩ := u64_nat hw
    exact ⟨k, hk, hn⟩
  obtain ⟨n0, b0, e0⟩ := g 0 (by omega)
  obtain ⟨n1, b1, e1⟩ := g 1 (by omega)
  obtain ⟨n2, b2, e2⟩ := g 2 (by omega)
  obtain ⟨n3, b3, e3⟩ := g 3 (by omega)
  simp only [List.drop_zero, List.drop_succ_cons, List.take_succ_cons, List.take_zero, List.cons.injEq, and_true] at e0 e1 e2 e3
  subst e0 e1 e2 e3
  have hlt : ∀ j, j < 4 → (fun j => if j = 0 then n0 else if j = 1 then n1 else if j = 2 then n2 else n3) j < 18446744073709551616 := fun j _ => by
    simp only
    split
    · exact b0
    · split
      · exact b1
      · split
        · exact b2
        · exact b3
  exact ⟨val (fun j => if j = 0 then n0 else if j = 1 then n1 else if j = 2 then n2 else n3) 4, W4.wv_val hlt, W4.val_ltR hlt⟩

set_option maxRecDepth 100000 in
/-- A number of 64 bits that came in. -/
theorem u64_open {base : Nat} {v : Value} {d : DataW H} {p : List MemPlace} (hok : Value.okWide Try.prog W .any base 23 v) (h : DataW.Trod enc Try.prog W 0 (fun _ => true) true 23 v d p) : ∃ X : Nat, v = .int .u64 X ∧ X < 18446744073709551616 := by
  obtain ⟨fuel, hf⟩ := h
  obtain ⟨n, hn, _, hw⟩ := DataW.trod_int Try.undU hf
  obtain ⟨k, rfl, hk⟩ := u64_nat hw
  obtain ⟨m, rfl⟩ := okWide_int Try.undU hok
  refine ⟨k, ?_, hk⟩
  simpa [Value.cells] using hn
end

end Go.Proofs.Ytiekipkmfopdoaa
