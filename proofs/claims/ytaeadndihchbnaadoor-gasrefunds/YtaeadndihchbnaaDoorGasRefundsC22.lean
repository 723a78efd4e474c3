/-
  A slice of words that came in.
-/
import Derived.Test.YtaeadndihchbnaaDoorGasRefundsC21
namespace Go.Proofs.YtaeadndihchbnaaDoor
open Go.ChangeShapes Go.WideShapes Go.ChangeAt Go.RowKit Go.Shelf

/-- A slice of words that can be read. -/
structure WS (W : World) (ao : Option Addr) (n c : Nat) (f : Nat → Nat) : Prop where
  le : n ≤ c
  cell : ∀ j, j < n → ∃ ad, ao = some ad ∧ ∃ y0 y1 y2 y3 : Int, wv (f j) = .agg #[.int .u64 y0, .int .u64 y1, .int .u64 y2, .int .u64 y3] ∧ W.cell? (ad.add (j * 4)) = some (.int .u64 y0) ∧ W.cell? ((ad.add (j * 4)).add 1) = some (.int .u64 y1) ∧ W.cell? ((ad.add (j * 4)).add 2) = some (.int .u64 y2) ∧ W.cell? ((ad.add (j * 4)).add 3) = some (.int .u64 y3)

theorem WS.moved {w w' : World} {ao : Option Addr} {n c : Nat} {f : Nat → Nat} (h : WS w ao n c f) (hb : Below w.heap.size w w') : WS w' ao n c f :=
  ⟨h.le, fun j hj => by
    obtain ⟨ad, e, y0, y1, y2, y3, e0, h0, h1, h2, h3⟩ := h.cell j hj
    exact ⟨ad, e, y0, y1, y2, y3, e0, (hb.cell (p := ad.add (j * 4)) (World.block_lt_of_cell? w _ h0)).trans h0, (hb.cell (p := (ad.add (j * 4)).add 1) (World.block_lt_of_cell? w _ h1)).trans h1, (hb.cell (p := (ad.add (j * 4)).add 2) (World.block_lt_of_cell? w _ h2)).trans h2, (hb.cell (p := (ad.add (j * 4)).add 3) (World.block_lt_of_cell? w _ h3)).trans h3⟩⟩

theorem Tryd.undWs : Tryd.prog.underlying 70 = some (.slice 30) := by kernel_rfl

theorem Tryd.bytesW : Tryd.prog.bytesOf 30 = 32 := by kernel_rfl

section
variable {H : Type} {enc : TypeId × Value → H} {W : World}
theorem four_at {x : Addr} {cs : List Value} (h : W.cells? 0 x 4 = some cs) : ∃ c0 c1 c2 c3, cs = [c0, c1, c2, c3] ∧ W.cell? x = some c0 ∧ W.cell? (x.add 1) = some c1 ∧ W.cell? (x.add 2) = some c2 ∧ W.cell? (x.add 3) = some c3 := by
  obtain ⟨_, hl, hc⟩ := World.cells?_some h
  match cs, hl with
  | [c0, c1, c2, c3], _ => exact ⟨c0, c1, c2, c3, rfl, by simpa [Addr.add] using hc 0 (by omega), by simpa using hc 1 (by omega), by simpa using hc 2 (by omega), by simpa using hc 3 (by omega)⟩

set_option maxRecDepth 100000 in
theorem wordsl_open {v : Value} {d : DataW H} {p : List MemPlace} {base : Nat} (hok : Value.okWide Tryd.prog W .any base 70 v) (h : DataW.Trod enc Tryd.prog W 0 (fun _ => true) true 70 v d p) (hw : (d.weights Tryd.prog 70).all (· ≤ reachBytes) = true) :
    ∃ (n : Nat) (f : Nat → Nat) (ao : Option Addr) (c : Nat), v = .slice ao n c ∧ WS W ao n c f ∧ n ≤ 140737488355328 := by
  obtain ⟨fuel, hf⟩ := h
  obtain ⟨ao, n, cap, rfl⟩ := okWide_slice Tryd.undWs hok
  have hcells : (Value.slice ao n cap).cells.toList = [.slice ao n cap] := rfl
  rw [hcells] at hf
  rcases DataW.trod_slice Tryd.undWs hf with ⟨h1, hx⟩ | ⟨a, len, cp, elems, rest, m, rfl, h1, hx, _, hle, hcm, hel, hi, _, _⟩
  · simp only [List.cons.injEq, Value.slice.injEq, and_true] at h1
    obtain ⟨rfl, rfl, rfl⟩ := h1
    exact ⟨0, fun _ => 0, none, 0, rfl, ⟨Nat.le_refl _, fun j hj => absurd hj (by omega)⟩, by omega⟩
  · simp only [List.cons.injEq, Value.slice.injEq, and_true] at h1
    obtain ⟨rfl, rfl, rfl⟩ := h1
    have hd : d = .slice (elems.map (·.1)) (rest.map (·.1)) := congrArg Prod.fst hx
    subst hd
    have hs : (elems.length + rest.length) * 32 ≤ reachBytes := by
      have := List.all_eq_true.1 hw ((elems.length + rest.length) * 32) (by simp [DataW.weights, Tryd.bytesW])
      simpa using this
    unfold reachBytes at hs
    have hb : ∀ j, ∃ X : Nat, j < n → ∃ y0 y1 y2 y3 : Int, wv X = .agg #[.int .u64 y0, .int .u64 y1, .int .u64 y2, .int .u64 y3] ∧ W.cell? (a.add (j * 4)) = some (.int .u64 y0) ∧ W.cell? ((a.add (j * 4)).add 1) = some (.int .u64 y1) ∧ W.cell? ((a.add (j * 4)).add 2) = some (.int .u64 y2) ∧ W.cell? ((a.add (j * 4)).add 3) = some (.int .u64 y3) := fun j => by
      by_cases hj : j < n
      · have h2 := hi j hj
        rw [Tryd.cellsW, List.getElem?_eq_getElem (by omega)] at h2
        obtain ⟨cs, hc, ht⟩ := Option.bind_eq_some_iff.1 h2
        obtain ⟨c0, c1, c2, c3, rfl, e0, e1, e2, e3⟩ := four_at hc
        obtain ⟨xs, m', _, hx', _, hl', hi'⟩ := DataW.trod_array Tryd.undW ht
        have g : ∀ i, i < 4 → ∃ n : Nat, n < 18446744073709551616 ∧ (([c0, c1, c2, c3] : List Value).drop i).take 1 = [.int .u64 n] := by
          intro i hi4
          have := hi' i hi4
          rw [Tryd.cellsU, Nat.mul_one, List.getElem?_eq_getElem (by omega)] at this
          obtain ⟨n, hn, _, hw⟩ := DataW.trod_int Tryd.undU this
          obtain ⟨k, rfl, hk⟩ := u64_nat hw
          exact ⟨k, hk, hn⟩
        obtain ⟨n0, b0, g0⟩ := g 0 (by omega)
        obtain ⟨n1, b1, g1⟩ := g 1 (by omega)
        obtain ⟨n2, b2, g2⟩ := g 2 (by omega)
        obtain ⟨n3, b3, g3⟩ := g 3 (by omega)
        simp only [List.drop_zero, List.drop_succ_cons, List.take_succ_cons, List.take_zero, List.cons.injEq, and_true] at g0 g1 g2 g3
        subst g0 g1 g2 g3
        exact ⟨_, fun _ => ⟨_, _, _, _, wv_mk (k := 0) b0 b1 b2 b3, e0, e1, e2, e3⟩⟩
      · exact ⟨0, fun h => absurd h hj⟩
    exact ⟨n, fun j => (hb j).choose, some a, cap, rfl, ⟨hle, fun j hj => ⟨a, rfl, (hb j).choose_spec hj⟩⟩, by omega⟩

end

end Go.Proofs.YtaeadndihchbnaaDoor
