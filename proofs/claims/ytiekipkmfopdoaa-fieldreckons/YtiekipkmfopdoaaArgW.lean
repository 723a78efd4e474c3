/-
  Lists of words that came in as arguments.
-/
import Derived.Test.YtiekipkmfopdoaaArgB
import Derived.Test.YtiekipkmfopdoaaRExp
namespace Go.Proofs.Ytiekipkmfopdoaa
open Go.ChangeShapes Go.WideShapes Go.ChangeAt Go.RowKit Go.Shelf

theorem Try.byteU : Try.prog.bytesOf 23 = 8 := by kernel_rfl

theorem add_block (a : Addr) (j : Nat) : (a.add j).block = a.block := by
  unfold Addr.add
  split <;> rfl

section
variable {H : Type} {enc : TypeId × Value → H} {W : World}

set_option maxRecDepth 100000 in
/-- A slice of words that came in. -/
theorem words_open {v : Value} {d : DataW H} {p : List MemPlace} {base : Nat} (hok : Value.okWide Try.prog W .any base 27 v) (h : DataW.Trod enc Try.prog W 0 (fun _ => true) true 27 v d p) (hw : (d.weights Try.prog 27).all (· ≤ reachBytes) = true) :
    ∃ (n : Nat) (f : Nat → Nat), EW W v n f ∧ n ≤ 9223372036854775807 := by
  obtain ⟨fuel, hf⟩ := h
  obtain ⟨ao, n, cap, rfl⟩ := okWide_slice Try.undL hok
  have hcells : (Value.slice ao n cap).cells.toList = [.slice ao n cap] := rfl
  rw [hcells] at hf
  rcases DataW.trod_slice Try.undL hf with ⟨h1, hx⟩ | ⟨a, len, cp, elems, rest, m, rfl, h1, hx, _, hle, hcm, hel, hi, _, _⟩
  · simp only [List.cons.injEq, Value.slice.injEq, and_true] at h1
    obtain ⟨rfl, rfl, rfl⟩ := h1
    exact ⟨0, fun _ => 0, ⟨fun _ => by decide, none, 0, rfl, fun j hj => absurd hj (by omega)⟩, by omega⟩
  · simp only [List.cons.injEq, Value.slice.injEq, and_true] at h1
    obtain ⟨rfl, rfl, rfl⟩ := h1
    have hd : d = .slice (elems.map (·.1)) (rest.map (·.1)) := congrArg Prod.fst hx
    subst hd
    have hs : (elems.length + rest.length) * 8 ≤ reachBytes := by
      have := List.all_eq_true.1 hw ((elems.length + rest.length) * 8) (by simp [DataW.weights, Try.byteU])
      simpa using this
    unfold reachBytes at hs
    have hb : ∀ j, ∃ b : Nat, b < 18446744073709551616 ∧ (j < n → W.cell? (a.add j) = some (.int .u64 b)) := fun j => by
      by_cases hj : j < n
      · have h2 := hi j hj
        rw [Try.cellsU, Nat.mul_one, List.getElem?_eq_getElem (by omega)] at h2
        obtain ⟨cs, hc, ht⟩ := Option.bind_eq_some_iff.1 h2
        obtain ⟨c, rfl, hcell⟩ := one_cell hc
        obtain ⟨k, hk, _, hw⟩ := DataW.trod_int Try.undU ht
        obtain ⟨b, rfl, hb⟩ := u64_nat hw
        simp only [List.cons.injEq, and_true] at hk
        exact ⟨b, hb, fun _ => by rw [hcell, hk]⟩
      · exact ⟨0, by omega, fun h => absurd h hj⟩
    refine ⟨n, fun j => (hb j).choose, ⟨fun j => (hb j).choose_spec.1, some a, cap, rfl, fun j hj => ⟨a, rfl, ?_, (hb j).choose_spec.2 hj⟩⟩, by omega⟩
    have := World.block_lt_of_cell? W _ ((hb j).choose_spec.2 hj)
    rwa [add_block] at this
end

end Go.Proofs.Ytiekipkmfopdoaa
