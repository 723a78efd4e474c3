/-
  Bytes, and numbers of six limbs, that came in as arguments.
-/
import Derived.Test.YtiekipkmfopdoaaArgF
import Derived.Test.YtiekipkmfopdoaaByt
import Derived.Test.YtiekipkmfopdoaaCel6
import Derived.ChangeSlices
namespace Go.Proofs.Ytiekipkmfopdoaa
open Go.ChangeShapes Go.WideShapes Go.ChangeAt Go.RowKit Go.Shelf

theorem Try.cells5 : Try.prog.cellsOf 5 = 1 := by kernel_rfl
theorem Try.byte5 : Try.prog.bytesOf 5 = 1 := by kernel_rfl
theorem Try.cells6 : Try.prog.cellsOf 29 = 6 := by kernel_rfl
theorem Try.und6 : Try.prog.underlying 29 = some (.array 6 23) := by kernel_rfl

theorem u8_nat {n : Int} (h : (Lit.int .u8 n).wf = true) : ∃ k : Nat, n = k ∧ k < 256 := by
  have := bounds_u8 h
  exact ⟨n.toNat, by omega, by omega⟩

theorem six_cells {α : Type} {cs : Array α} (h : cs.size = 6) : ∃ c0 c1 c2 c3 c4 c5, cs = #[c0, c1, c2, c3, c4, c5] := by
  match cs, h with
  | ⟨[c0, c1, c2, c3, c4, c5]⟩, _ => exact ⟨c0, c1, c2, c3, c4, c5, rfl⟩

section
variable {H : Type} {enc : TypeId × Value → H} {W : World}

theorem one_cell {x : Addr} {cs : List Value} (h : W.cells? 0 x 1 = some cs) : ∃ c, cs = [c] ∧ W.cell? x = some c := by
  obtain ⟨_, hl, hc⟩ := World.cells?_some h
  match cs, hl with
  | [c], _ => exact ⟨c, rfl, by simpa [Addr.add] using hc 0 (by omega)⟩

set_option maxRecDepth 100000 in
/-- A slice of bytes that came in. -/
theorem bytes_open {v : Value} {d : DataW H} {p : List MemPlace} {base : Nat} (hok : Value.okWide Try.prog W .any base 62 v) (h : DataW.Trod enc Try.prog W 0 (fun _ => true) true 62 v d p) (hw : (d.weights Try.prog 62).all (· ≤ reachBytes) = true) :
    ∃ (ao : Option Addr) (n c : Nat) (bs : Nat → Nat), v = .slice ao n c ∧ BS W ao n c bs ∧ n ≤ 140737488355328 := by
  obtain ⟨fuel, hf⟩ := h
  obtain ⟨ao, n, cap, rfl⟩ := okWide_slice Try.undB hok
  have hcells : (Value.slice ao n cap).cells.toList = [.slice ao n cap] := rfl
  rw [hcells] at hf
  rcases DataW.trod_slice Try.undB hf with ⟨h1, hx⟩ | ⟨a, len, cp, elems, rest, m, rfl, h1, hx, _, hle, hcm, hel, hi, _, _⟩
  · simp only [List.cons.injEq, Value.slice.injEq, and_true] at h1
    obtain ⟨rfl, rfl, rfl⟩ := h1
    exact ⟨none, 0, 0, fun _ => 0, rfl, BS.empty _ _ _ (fun _ => by omega), by omega⟩
  · simp only [List.cons.injEq, Value.slice.injEq, and_true] at h1
    obtain ⟨rfl, rfl, rfl⟩ := h1
    have hd : d = .slice (elems.map (·.1)) (rest.map (·.1)) := congrArg Prod.fst hx
    subst hd
    have hs : (elems.length + rest.length) * 1 ≤ reachBytes := by
      have := List.all_eq_true.1 hw ((elems.length + rest.length) * 1) (by simp [DataW.weights, Try.byte5])
      simpa using this
    unfold reachBytes at hs
    have hb : ∀ j, ∃ b : Nat, b < 256 ∧ (j < n → W.cell? (a.add j) = some (.int .u8 b)) := fun j => by
      by_cases hj : j < n
      · have h2 := hi j hj
        rw [Try.cells5, Nat.mul_one, List.getElem?_eq_getElem (by omega)] at h2
        obtain ⟨cs, hc, ht⟩ := Option.bind_eq_some_iff.1 h2
        obtain ⟨c, rfl, hcell⟩ := one_cell hc
        obtain ⟨k, hk, _, hw⟩ := DataW.trod_int Try.und5 ht
        obtain ⟨b, rfl, hb⟩ := u8_nat hw
        simp only [List.cons.injEq, and_true] at hk
        exact ⟨b, hb, fun _ => by rw [hcell, hk]⟩
      · exact ⟨0, by omega, fun h => absurd h hj⟩
    exact ⟨some a, n, cap, fun j => (hb j).choose, rfl, ⟨fun j => (hb j).choose_spec.1, hle, hcm, fun j hj => ⟨a, rfl, (hb j).choose_spec.2 hj⟩, fun h => by cases h⟩, by omega⟩

set_option maxRecDepth 100000 in
/-- A number of six limbs that came in. -/
theorem wide_open {base : Nat} {v : Value} {d : DataW H} {p : List MemPlace} (hok : Value.okWide Try.prog W .any base 29 v) (h : DataW.Trod enc Try.prog W 0 (fun _ => true) true 29 v d p) : ∃ X : Nat, v = W6.wv X ∧ X < W6.R := by
  obtain ⟨cs, rfl, hsz⟩ := okWide_array Try.und6 hok
  obtain ⟨c0, c1, c2, c3, c4, c5, rfl⟩ := six_cells (hsz.trans Try.cells6)
  obtain ⟨fuel, hf⟩ := h
  obtain ⟨xs, m, _, hx, _, hl, hi⟩ := DataW.trod_array Try.und6 hf
  have g : ∀ i, i < 6 → ∃ n : Nat, n < 18446744073709551616 ∧ ((#[c0, c1, c2, c3, c4, c5] : Array Value).toList.drop i).take 1 = [.int .u64 n] := by
    intro i hi4
    have := hi i hi4
    rw [Try.cellsU, Nat.mul_one, List.getElem?_eq_getElem (by omega)] at this
    obtain ⟨n, hn, _, hw⟩ := DataW.trod_int Try.undU this
    obtain ⟨k, rfl, hk⟩ := u64_nat hw
    exact ⟨k, hk, hn⟩
  obtain ⟨n0, b0, e0⟩ := g 0 (by omega)
  obtain ⟨n1, b1, e1⟩ := g 1 (by omega)
  obtain ⟨n2, b2, e2⟩ := g 2 (by omega)
  obtain ⟨n3, b3, e3⟩ := g 3 (by omega)
  obtain ⟨n4, b4, e4⟩ := g 4 (by omega)
  obtain ⟨n5, b5, e5⟩ := g 5 (by omega)
  simp only [List.drop_zero, List.drop_succ_cons, List.take_succ_cons, List.take_zero, List.cons.injEq, and_true] at e0 e1 e2 e3 e4 e5
  subst e0 e1 e2 e3 e4 e5
  have hlt : ∀ j, j < 6 → (fun j => if j = 0 then n0 else if j = 1 then n1 else if j = 2 then n2 else if j = 3 then n3 else if j = 4 then n4 else n5) j < 18446744073709551616 := fun j _ => by
    simp only
    repeat' split
    all_goals assumption
  exact ⟨val (fun j => if j = 0 then n0 else if j = 1 then n1 else if j = 2 then n2 else if j = 3 then n3 else if j = 4 then n4 else n5) 6, W6.wv_val hlt, W6.val_ltR hlt⟩
end

end Go.Proofs.Ytiekipkmfopdoaa
