/-
  Slices of bytes that came in as arguments.
-/
import Derived.Test.YtpnijncoldihfaaRows
import Derived.ProofKit
import Derived.SizedLaws
import Derived.OpenShut
import Derived.Test.YtpnijncoldihfaaBytesC06
import Derived.ChangeSlices
import Derived.Test.YtpnijncoldihfaaBytesC43
namespace Go.Proofs.Ytpnijncoldihfaa
open Go.ChangeShapes Go.WideShapes Go.ChangeAt Go.RowKit Go.Shelf

theorem Try.own : ownKnob Try.prog.godebug = none := by kernel_rfl

theorem Try.laidOut : laidOutB Try.prog = true := by kernel_rfl

theorem Try.cells24 : Try.prog.cellsOf 24 = 4 := by kernel_rfl

theorem Try.cells22 : Try.prog.cellsOf 22 = 1 := by kernel_rfl

theorem four_cells {α : Type} {cs : Array α} (h : cs.size = 4) : ∃ c0 c1 c2 c3, cs = #[c0, c1, c2, c3] := by
  match cs, h with
  | ⟨[c0, c1, c2, c3]⟩, _ => exact ⟨c0, c1, c2, c3, rfl⟩

theorem u64_nat {n : Int} (h : (Lit.int .u64 n).wf = true) : ∃ k : Nat, n = k ∧ k < 18446744073709551616 := by
  have := bounds_u64 h
  exact ⟨n.toNat, by omega, by omega⟩

theorem okWide_array {P : Program} {w : World} {r : Reach} {base n : Nat} {t e : TypeId} {v : Value} (ht : P.underlying t = some (.array n e)) (h : Value.okWide P w r base t v) : ∃ cs, v = .agg cs ∧ cs.size = P.cellsOf t := by
  unfold Value.okWide at h
  rw [ht] at h
  obtain ⟨cs, h1, h2, _⟩ := h
  exact ⟨cs, h1, h2⟩

section
variable {H : Type} {enc : TypeId × Value → H} {W : World}

set_option maxRecDepth 100000 in
/-- A word that came in. -/
theorem word_open {base : Nat} {v : Value} {d : DataW H} {p : List MemPlace} (hok : Value.okWide Try.prog W .any base 24 v) (h : DataW.Trod enc Try.prog W 0 (fun _ => true) true 24 v d p) : ∃ X : Nat, v = wv X := by
  obtain ⟨cs, rfl, hsz⟩ := okWide_array Try.underlying24 hok
  obtain ⟨c0, c1, c2, c3, rfl⟩ := four_cells (hsz.trans Try.cells24)
  obtain ⟨fuel, hf⟩ := h
  obtain ⟨xs, m, _, hx, _, hl, hi⟩ := DataW.trod_array Try.underlying24 hf
  have g : ∀ i, i < 4 → ∃ n : Nat, n < 18446744073709551616 ∧ ((#[c0, c1, c2, c3] : Array Value).toList.drop i).take 1 = [.int .u64 n] := by
    intro i hi4
    have := hi i hi4
    rw [Try.cells22, Nat.mul_one, List.getElem?_eq_getElem (by omega)] at this
    obtain ⟨n, hn, _, hw⟩ := DataW.trod_int Try.underlying22 this
    obtain ⟨k, rfl, hk⟩ := u64_nat hw
    exact ⟨k, hk, hn⟩
  obtain ⟨n0, b0, e0⟩ := g 0 (by omega)
  obtain ⟨n1, b1, e1⟩ := g 1 (by omega)
  obtain ⟨n2, b2, e2⟩ := g 2 (by omega)
  obtain ⟨n3, b3, e3⟩ := g 3 (by omega)
  simp only [List.drop_zero, List.drop_succ_cons, List.take_succ_cons, List.take_zero, List.cons.injEq, and_true] at e0 e1 e2 e3
  subst e0 e1 e2 e3
  exact ⟨num n0 n1 n2 n3, wv_num b0 b1 b2 b3 (Nat.mod_eq_of_lt (num_lt b0 b1 b2 b3))⟩

end

end Go.Proofs.Ytpnijncoldihfaa

namespace Go.Proofs.Ytpnijncoldihfaa
open Go.ChangeShapes Go.WideShapes Go.ChangeAt Go.RowKit Go.Shelf

theorem Try.cells5 : Try.prog.cellsOf 5 = 1 := by kernel_rfl

theorem Try.byte5 : Try.prog.bytesOf 5 = 1 := by kernel_rfl

theorem u8_nat {n : Int} (h : (Lit.int .u8 n).wf = true) : ∃ k : Nat, n = k ∧ k < 256 := by
  have := bounds_u8 h
  exact ⟨n.toNat, by omega, by omega⟩

section
variable {H : Type} {enc : TypeId × Value → H} {W : World}

theorem one_cell {x : Addr} {cs : List Value} (h : W.cells? 0 x 1 = some cs) : ∃ c, cs = [c] ∧ W.cell? x = some c := by
  obtain ⟨_, hl, hc⟩ := World.cells?_some h
  match cs, hl with
  | [c], _ => exact ⟨c, rfl, by simpa [Addr.add] using hc 0 (by omega)⟩

set_option maxRecDepth 100000 in
/-- A slice of bytes that came in. -/
theorem bytes_open {base : Nat} {v : Value} {d : DataW H} {p : List MemPlace} (hok : Value.okWide Try.prog W .any base 51 v) (h : DataW.Trod enc Try.prog W 0 (fun _ => true) true 51 v d p)
    (hsz : ∀ elems spare, d = .slice elems spare → (elems.length + spare.length) * Try.prog.bytesOf 5 ≤ reachBytes) : BVal W v := by
  obtain ⟨fuel, hf⟩ := h
  obtain ⟨ao, n, cap, rfl⟩ := okWide_slice Try.underlying51 hok
  have hcells : (Value.slice ao n cap).cells.toList = [.slice ao n cap] := rfl
  rcases DataW.trod_slice Try.underlying51 hf with ⟨h1, _⟩ | ⟨a, len, cp, elems, rest, m, rfl, h1, hx, _, hle, _, hel, hi, _, _⟩
  · rw [hcells] at h1
    simp only [List.cons.injEq, Value.slice.injEq, and_true] at h1
    obtain ⟨rfl, rfl, rfl⟩ := h1
    exact ⟨none, 0, 0, fun _ => 0, rfl, fun _ => by omega, by omega, fun j hj => absurd hj (by omega), fun _ => ⟨rfl, rfl⟩⟩
  · rw [hcells] at h1
    simp only [List.cons.injEq, Value.slice.injEq, and_true] at h1
    obtain ⟨rfl, rfl, rfl⟩ := h1
    have hd : d = .slice (elems.map (·.1)) (rest.map (·.1)) := congrArg Prod.fst hx
    have hs := hsz _ _ hd
    rw [Try.byte5] at hs
    simp only [List.length_map, Nat.mul_one] at hs
    unfold reachBytes at hs
    have hb : ∀ j, ∃ b : Nat, b < 256 ∧ (j < n → W.cell? (a.add j) = some (.int .u8 b)) := fun j => by
      by_cases hj : j < n
      · have h2 := hi j hj
        rw [Try.cells5, Nat.mul_one, List.getElem?_eq_getElem (by omega)] at h2
        obtain ⟨cs, hc, ht⟩ := Option.bind_eq_some_iff.1 h2
        obtain ⟨c, rfl, hcell⟩ := one_cell hc
        obtain ⟨k, hk, _, hw⟩ := DataW.trod_int Try.underlying5 ht
        obtain ⟨b, rfl, hb⟩ := u8_nat hw
        simp only [List.cons.injEq, and_true] at hk
        exact ⟨b, hb, fun _ => by rw [hcell, hk]⟩
      · exact ⟨0, by omega, fun h => absurd h hj⟩
    exact ⟨some a, n, cap, fun j => (hb j).choose, rfl, fun j => (hb j).choose_spec.1, by omega, fun j hj => ⟨a, rfl, (hb j).choose_spec.2 hj⟩, fun h => by cases h⟩

end

end Go.Proofs.Ytpnijncoldihfaa
