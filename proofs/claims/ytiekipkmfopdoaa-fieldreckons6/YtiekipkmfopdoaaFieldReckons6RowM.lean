/-
  FieldReckons6: modulo any odd number of 384 bits sums, differences, products, powers, inverses and roots are what the document says. No conditions.
-/
import Derived.Test.YtiekipkmfopdoaaRows
import Derived.Test.YtiekipkmfopdoaaCel4
import Derived.ProofKit
import Derived.SizedLaws
import Derived.OpenShut
import Derived.Test.YtiekipkmfopdoaaByt
import Derived.Test.YtiekipkmfopdoaaCel6
import Derived.ChangeSlices
import Derived.Test.YtiekipkmfopdoaaReckM6
import Derived.Test.YtiekipkmfopdoaaReckN6
import Derived.Deep.CondSized
namespace Go.Proofs.Ytiekipkmfopdoaa
open Go.ChangeShapes Go.WideShapes Go.ChangeAt Go.RowKit Go.Shelf

theorem Try.own : ownKnob Try.prog.godebug = none := by kernel_rfl
theorem Try.laidOut : laidOutB Try.prog = true := by kernel_rfl
theorem Try.cellsW : Try.prog.cellsOf 24 = 4 := by kernel_rfl
theorem Try.cellsU : Try.prog.cellsOf 23 = 1 := by kernel_rfl
theorem Try.undW : Try.prog.underlying 24 = some (.array 4 23) := by kernel_rfl
theorem Try.undU : Try.prog.underlying 23 = some (.int .u64) := by kernel_rfl

theorem four_cells {α : Type} {cs : Array α} (h : cs.size = 4) : ∃ c0 c1 c2 c3, cs = #[c0, c1, c2, c3] := by
  match cs, h with
  | ⟨[c0, c1, c2, c3]⟩, _ => exact ⟨c0, c1, c2, c3, rfl⟩

theorem u64_nat {n : Int} (h : (Lit.int .u64 n).wf = true) : ∃ k : Nat, n = k ∧ k < 18446744073709551616 := by
  have := bounds_u64 h
  exact ⟨n.toNat, by omega, by omega⟩

theorem okWide_array {P : Program} {w : World} {r : Reach} {base n : Nat} {t e : TypeId} {v : Value} (ht : P.underlying t = some (.array n e)) (h : Value.okWide P w r base t v) : ∃ cs, v = .agg cs ∧ cs.size = P.cellsOf t := by
  unfold Value.okWide at h
  rw [ht] at h
  obtain ⟨cs, h1, h2, _⟩ := h
  exact ⟨cs, h1, h2⟩

section
variable {H : Type} {enc : TypeId × Value → H} {W : World}

set_option maxRecDepth 100000 in
/-- A number of four limbs that came in. -/
theorem word_open {base : Nat} {v : Value} {d : DataW H} {p : List MemPlace} (hok : Value.okWide Try.prog W .any base 24 v) (h : DataW.Trod enc Try.prog W 0 (fun _ => true) true 24 v d p) : ∃ X : Nat, v = W4.wv X ∧ X < W4.R := by
  obtain ⟨cs, rfl, hsz⟩ := okWide_array Try.undW hok
  obtain ⟨c0, c1, c2, c3, rfl⟩ := four_cells (hsz.trans Try.cellsW)
  obtain ⟨fuel, hf⟩ := h
  obtain ⟨xs, m, _, hx, _, hl, hi⟩ := DataW.trod_array Try.undW hf
  have g : ∀ i, i < 4 → ∃ n : Nat, n < 18446744073709551616 ∧ ((#[c0, c1, c2, c3] : Array Value).toList.drop i).take 1 = [.int .u64 n] := by
    intro i hi4
    have := hi i hi4
    rw [Try.cellsU, Nat.mul_one, List.getElem?_eq_getElem (by omega)] at this
    obtain ⟨n, hn, _, hw⟩ := DataW.trod_int Try.undU this
    obtain ⟨k, rfl, hk⟩ := u64_nat hw
    exact ⟨k, hk, hn⟩
  obtain ⟨n0, b0, e0⟩ := g 0 (by omega)
  obtain ⟨n1, b1, e1⟩ := g 1 (by omega)
  obtain ⟨n2, b2, e2⟩ := g 2 (by omega)
  obtain ⟨n3, b3, e3⟩ := g 3 (by omega)
  simp only [List.drop_zero, List.drop_succ_cons, List.take_succ_cons, List.take_zero, List.cons.injEq, and_true] at e0 e1 e2 e3
  subst e0 e1 e2 e3
  have hlt : ∀ j, j < 4 → (fun j => if j = 0 then n0 else if j = 1 then n1 else if j = 2 then n2 else n3) j < 18446744073709551616 := fun j _ => by
    simp only
    split
    · exact b0
    · split
      · exact b1
      · split
        · exact b2
        · exact b3
  exact ⟨val (fun j => if j = 0 then n0 else if j = 1 then n1 else if j = 2 then n2 else n3) 4, W4.wv_val hlt, W4.val_ltR hlt⟩

set_option maxRecDepth 100000 in
/-- A number of 64 bits that came in. -/
theorem u64_open {base : Nat} {v : Value} {d : DataW H} {p : List MemPlace} (hok : Value.okWide Try.prog W .any base 23 v) (h : DataW.Trod enc Try.prog W 0 (fun _ => true) true 23 v d p) : ∃ X : Nat, v = .int .u64 X ∧ X < 18446744073709551616 := by
  obtain ⟨fuel, hf⟩ := h
  obtain ⟨n, hn, _, hw⟩ := DataW.trod_int Try.undU hf
  obtain ⟨k, rfl, hk⟩ := u64_nat hw
  obtain ⟨m, rfl⟩ := okWide_int Try.undU hok
  refine ⟨k, ?_, hk⟩
  simpa [Value.cells] using hn
end

end Go.Proofs.Ytiekipkmfopdoaa

namespace Go.Proofs.Ytiekipkmfopdoaa
open Go.ChangeShapes Go.WideShapes Go.ChangeAt Go.RowKit Go.Shelf

theorem Try.cells5 : Try.prog.cellsOf 5 = 1 := by kernel_rfl
theorem Try.byte5 : Try.prog.bytesOf 5 = 1 := by kernel_rfl
theorem Try.cells6 : Try.prog.cellsOf 29 = 6 := by kernel_rfl
theorem Try.und6 : Try.prog.underlying 29 = some (.array 6 23) := by kernel_rfl

theorem u8_nat {n : Int} (h : (Lit.int .u8 n).wf = true) : ∃ k : Nat, n = k ∧ k < 256 := by
  have := bounds_u8 h
  exact ⟨n.toNat, by omega, by omega⟩

theorem six_cells {α : Type} {cs : Array α} (h : cs.size = 6) : ∃ c0 c1 c2 c3 c4 c5, cs = #[c0, c1, c2, c3, c4, c5] := by
  match cs, h with
  | ⟨[c0, c1, c2, c3, c4, c5]⟩, _ => exact ⟨c0, c1, c2, c3, c4, c5, rfl⟩

section
variable {H : Type} {enc : TypeId × Value → H} {W : World}

theorem one_cell {x : Addr} {cs : List Value} (h : W.cells? 0 x 1 = some cs) : ∃ c, cs = [c] ∧ W.cell? x = some c := by
  obtain ⟨_, hl, hc⟩ := World.cells?_some h
  match cs, hl with
  | [c], _ => exact ⟨c, rfl, by simpa [Addr.add] using hc 0 (by omega)⟩

set_option maxRecDepth 100000 in
/-- A slice of bytes that came in. -/
theorem bytes_open {v : Value} {d : DataW H} {p : List MemPlace} {base : Nat} (hok : Value.okWide Try.prog W .any base 62 v) (h : DataW.Trod enc Try.prog W 0 (fun _ => true) true 62 v d p) (hw : (d.weights Try.prog 62).all (· ≤ reachBytes) = true) :
    ∃ (ao : Option Addr) (n c : Nat) (bs : Nat → Nat), v = .slice ao n c ∧ BS W ao n c bs ∧ n ≤ 140737488355328 := by
  obtain ⟨fuel, hf⟩ := h
  obtain ⟨ao, n, cap, rfl⟩ := okWide_slice Try.undB hok
  have hcells : (Value.slice ao n cap).cells.toList = [.slice ao n cap] := rfl
  rw [hcells] at hf
  rcases DataW.trod_slice Try.undB hf with ⟨h1, hx⟩ | ⟨a, len, cp, elems, rest, m, rfl, h1, hx, _, hle, hcm, hel, hi, _, _⟩
  · simp only [List.cons.injEq, Value.slice.injEq, and_true] at h1
    obtain ⟨rfl, rfl, rfl⟩ := h1
    exact ⟨none, 0, 0, fun _ => 0, rfl, BS.empty _ _ _ (fun _ => by omega), by omega⟩
  · simp only [List.cons.injEq, Value.slice.injEq, and_true] at h1
    obtain ⟨rfl, rfl, rfl⟩ := h1
    have hd : d = .slice (elems.map (·.1)) (rest.map (·.1)) := congrArg Prod.fst hx
    subst hd
    have hs : (elems.length + rest.length) * 1 ≤ reachBytes := by
      have := List.all_eq_true.1 hw ((elems.length + rest.length) * 1) (by simp [DataW.weights, Try.byte5])
      simpa using this
    unfold reachBytes at hs
    have hb : ∀ j, ∃ b : Nat, b < 256 ∧ (j < n → W.cell? (a.add j) = some (.int .u8 b)) := fun j => by
      by_cases hj : j < n
      · have h2 := hi j hj
        rw [Try.cells5, Nat.mul_one, List.getElem?_eq_getElem (by omega)] at h2
        obtain ⟨cs, hc, ht⟩ := Option.bind_eq_some_iff.1 h2
        obtain ⟨c, rfl, hcell⟩ := one_cell hc
        obtain ⟨k, hk, _, hw⟩ := DataW.trod_int Try.und5 ht
        obtain ⟨b, rfl, hb⟩ := u8_nat hw
        simp only [List.cons.injEq, and_true] at hk
        exact ⟨b, hb, fun _ => by rw [hcell, hk]⟩
      · exact ⟨0, by omega, fun h => absurd h hj⟩
    exact ⟨some a, n, cap, fun j => (hb j).choose, rfl, ⟨fun j => (hb j).choose_spec.1, hle, hcm, fun j hj => ⟨a, rfl, (hb j).choose_spec.2 hj⟩, fun h => by cases h⟩, by omega⟩

set_option maxRecDepth 100000 in
/-- A number of six limbs that came in. -/
theorem wide_open {base : Nat} {v : Value} {d : DataW H} {p : List MemPlace} (hok : Value.okWide Try.prog W .any base 29 v) (h : DataW.Trod enc Try.prog W 0 (fun _ => true) true 29 v d p) : ∃ X : Nat, v = W6.wv X ∧ X < W6.R := by
  obtain ⟨cs, rfl, hsz⟩ := okWide_array Try.und6 hok
  obtain ⟨c0, c1, c2, c3, c4, c5, rfl⟩ := six_cells (hsz.trans Try.cells6)
  obtain ⟨fuel, hf⟩ := h
  obtain ⟨xs, m, _, hx, _, hl, hi⟩ := DataW.trod_array Try.und6 hf
  have g : ∀ i, i < 6 → ∃ n : Nat, n < 18446744073709551616 ∧ ((#[c0, c1, c2, c3, c4, c5] : Array Value).toList.drop i).take 1 = [.int .u64 n] := by
    intro i hi4
    have := hi i hi4
    rw [Try.cellsU, Nat.mul_one, List.getElem?_eq_getElem (by omega)] at this
    obtain ⟨n, hn, _, hw⟩ := DataW.trod_int Try.undU this
    obtain ⟨k, rfl, hk⟩ := u64_nat hw
    exact ⟨k, hk, hn⟩
  obtain ⟨n0, b0, e0⟩ := g 0 (by omega)
  obtain ⟨n1, b1, e1⟩ := g 1 (by omega)
  obtain ⟨n2, b2, e2⟩ := g 2 (by omega)
  obtain ⟨n3, b3, e3⟩ := g 3 (by omega)
  obtain ⟨n4, b4, e4⟩ := g 4 (by omega)
  obtain ⟨n5, b5, e5⟩ := g 5 (by omega)
  simp only [List.drop_zero, List.drop_succ_cons, List.take_succ_cons, List.take_zero, List.cons.injEq, and_true] at e0 e1 e2 e3 e4 e5
  subst e0 e1 e2 e3 e4 e5
  have hlt : ∀ j, j < 6 → (fun j => if j = 0 then n0 else if j = 1 then n1 else if j = 2 then n2 else if j = 3 then n3 else if j = 4 then n4 else n5) j < 18446744073709551616 := fun j _ => by
    simp only
    repeat' split
    all_goals assumption
  exact ⟨val (fun j => if j = 0 then n0 else if j = 1 then n1 else if j = 2 then n2 else if j = 3 then n3 else if j = 4 then n4 else n5) 6, W6.wv_val hlt, W6.val_ltR hlt⟩
end

end Go.Proofs.Ytiekipkmfopdoaa

namespace Go.Proofs.Ytiekipkmfopdoaa
open Go.ChangeShapes Go.WideShapes Go.ChangeAt Go.RowKit Go.Shelf

theorem Try.byteU : Try.prog.bytesOf 23 = 8 := by kernel_rfl

theorem add_block (a : Addr) (j : Nat) : (a.add j).block = a.block := by
  unfold Addr.add
  split <;> rfl

section
variable {H : Type} {enc : TypeId × Value → H} {W : World}

set_option maxRecDepth 100000 in
/-- A slice of words that came in. -/
theorem words_open {v : Value} {d : DataW H} {p : List MemPlace} {base : Nat} (hok : Value.okWide Try.prog W .any base 27 v) (h : DataW.Trod enc Try.prog W 0 (fun _ => true) true 27 v d p) (hw : (d.weights Try.prog 27).all (· ≤ reachBytes) = true) :
    ∃ (n : Nat) (f : Nat → Nat), EW W v n f ∧ n ≤ 9223372036854775807 := by
  obtain ⟨fuel, hf⟩ := h
  obtain ⟨ao, n, cap, rfl⟩ := okWide_slice Try.undL hok
  have hcells : (Value.slice ao n cap).cells.toList = [.slice ao n cap] := rfl
  rw [hcells] at hf
  rcases DataW.trod_slice Try.undL hf with ⟨h1, hx⟩ | ⟨a, len, cp, elems, rest, m, rfl, h1, hx, _, hle, hcm, hel, hi, _, _⟩
  · simp only [List.cons.injEq, Value.slice.injEq, and_true] at h1
    obtain ⟨rfl, rfl, rfl⟩ := h1
    exact ⟨0, fun _ => 0, ⟨fun _ => by decide, none, 0, rfl, fun j hj => absurd hj (by omega)⟩, by omega⟩
  · simp only [List.cons.injEq, Value.slice.injEq, and_true] at h1
    obtain ⟨rfl, rfl, rfl⟩ := h1
    have hd : d = .slice (elems.map (·.1)) (rest.map (·.1)) := congrArg Prod.fst hx
    subst hd
    have hs : (elems.length + rest.length) * 8 ≤ reachBytes := by
      have := List.all_eq_true.1 hw ((elems.length + rest.length) * 8) (by simp [DataW.weights, Try.byteU])
      simpa using this
    unfold reachBytes at hs
    have hb : ∀ j, ∃ b : Nat, b < 18446744073709551616 ∧ (j < n → W.cell? (a.add j) = some (.int .u64 b)) := fun j => by
      by_cases hj : j < n
      · have h2 := hi j hj
        rw [Try.cellsU, Nat.mul_one, List.getElem?_eq_getElem (by omega)] at h2
        obtain ⟨cs, hc, ht⟩ := Option.bind_eq_some_iff.1 h2
        obtain ⟨c, rfl, hcell⟩ := one_cell hc
        obtain ⟨k, hk, _, hw⟩ := DataW.trod_int Try.undU ht
        obtain ⟨b, rfl, hb⟩ := u64_nat hw
        simp only [List.cons.injEq, and_true] at hk
        exact ⟨b, hb, fun _ => by rw [hcell, hk]⟩
      · exact ⟨0, by omega, fun h => absurd h hj⟩
    refine ⟨n, fun j => (hb j).choose, ⟨fun j => (hb j).choose_spec.1, some a, cap, rfl, fun j hj => ⟨a, rfl, ?_, (hb j).choose_spec.2 hj⟩⟩, by omega⟩
    have := World.block_lt_of_cell? W _ ((hb j).choose_spec.2 hj)
    rwa [add_block] at this
end

end Go.Proofs.Ytiekipkmfopdoaa

namespace Go.Proofs.Ytiekipkmfopdoaa
open Go.ChangeShapes Go.WideShapes Go.ChangeAt Go.RowKit Go.Shelf

set_option maxHeartbeats 1000000 in
set_option maxRecDepth 100000 in
theorem fieldReckons6_lifted (os : Os) (started : os.Started) (H : Type) (enc : TypeId × Value → H) :
    ReturnsInHanded {} Try.checked os 5 .any (Rows.fieldReckons6Spec.pre6 enc Try.prog Try.f5 Rows.fieldReckons6Row.domain false) (Rows.fieldReckons6Spec.post enc Try.prog Try.f5 false true false false) := by
  refine returnsInHanded_of_change_sized (C := Try.checked) Try.own started (by kernel_rfl) Try.func5
    (ChangeSpec.witness6 (enc := enc) (C := Try.checked) false ⟨#[], #[.agg #[.int .u64 0, .int .u64 0, .int .u64 0, .int .u64 0, .int .u64 0, .int .u64 0], .agg #[.int .u64 0, .int .u64 0, .int .u64 0, .int .u64 0, .int .u64 0, .int .u64 0], .agg #[.int .u64 0, .int .u64 0, .int .u64 0, .int .u64 0, .int .u64 0, .int .u64 0], .slice none 0 0], []⟩ 8 (by kernel_rfl) (by kernel_rfl) (by kernel_rfl) (by kernel_rfl)) ?_
  intro W base args ds gs before hval0 hW hcnd hsz0 _
  have hval : ∀ (j : Nat) t v, Try.f5.params[j]? = some t → args[j]? = some v → Value.okWide Try.prog W .any base t v := hval0
  have hW' := hW
  obtain ⟨p, q, hA0, hV, rfl, hfz, hnd⟩ := hW
  have hA : DataW.TrodAll enc Try.prog W 0 (fun _ => true) true Try.f5.params.toList args.toList ds p := hA0
  rw [Try.params5] at hA hval
  obtain ⟨v0, vs0, d0, ds0, p0, q0, hargs0, rfl, rfl, h0, r0⟩ := trodAll_cons hA
  obtain ⟨v1, vs1, d1, ds1, p1, q1, hargs1, rfl, rfl, h1, r1⟩ := trodAll_cons r0
  obtain ⟨v2, vs2, d2, ds2, p2, q2, hargs2, rfl, rfl, h2, r2⟩ := trodAll_cons r1
  obtain ⟨v3, vs3, d3, ds3, p3, q3, hargs3, rfl, rfl, h3, r3⟩ := trodAll_cons r2
  obtain ⟨rfl, rfl, rfl⟩ := trodAll_nil r3
  obtain ⟨rfl, rfl⟩ := trodVars_none hV
  subst hargs3
  subst hargs2
  subst hargs1
  obtain rfl : args = #[v0, v1, v2, v3] := by cases args; simp_all
  obtain ⟨X0, rfl, hX0⟩ := wide_open (hval 0 29 v0 rfl rfl) h0
  obtain ⟨X1, rfl, hX1⟩ := wide_open (hval 1 29 v1 rfl rfl) h1
  obtain ⟨X2, rfl, hX2⟩ := wide_open (hval 2 29 v2 rfl rfl) h2
  obtain ⟨n3, ef3, hN3, hL3⟩ := words_open (hval 3 27 v3 rfl rfl) h3 (by rw [List.all_eq_true]; intro y hy; exact List.all_eq_true.1 hsz0 y (DataW.weights_mem_each (j := 3) (t := 27) (by rw [Try.params5]; rfl) rfl y hy))
  have hlt : ∀ x ∈ p0 ++ (p1 ++ (p2 ++ (p3 ++ ([])))), x.block < W.heap.size := fun x hx => by simpa using hW'.lt x (by simpa using hx)
  have hcall := W6.fieldReckons_any X0 X1 X2 hX0 hX1 hX2 W hN3 hL3
  simp only [List.append_nil] at hW'
  refine hcall.mono fun e W' ⟨he, hb⟩ => ?_
  subst he
  refine ⟨_, rfl, [d0, d1, d2, d3], [], _, [], p0 ++ (p1 ++ (p2 ++ (p3 ++ ([])))), [], hW', trodAll_mk1 (shut_bool Try.underlying4 true), (trodAll_cons_mk (Below.trod Try.laidOut (by kernel_rfl) (of_decide_eq_true (by kernel_rfl)) h0 hb (fun x hx => hlt x (by simp [hx]))) (trodAll_cons_mk (Below.trod Try.laidOut (by kernel_rfl) (of_decide_eq_true (by kernel_rfl)) h1 hb (fun x hx => hlt x (by simp [hx]))) (trodAll_cons_mk (Below.trod Try.laidOut (by kernel_rfl) (of_decide_eq_true (by kernel_rfl)) h2 hb (fun x hx => hlt x (by simp [hx]))) (trodAll_cons_mk (Below.trod Try.laidOut (by kernel_rfl) (of_decide_eq_true (by kernel_rfl)) h3 hb (fun x hx => hlt x (by simp [hx]))) trodAll_mk0)))), rfl, hb.frame _, fun h => by cases h⟩

theorem fieldReckons6_holds : Rows.FieldReckons6Said :=
  OpenClaim.holds_of_wide 5 Try.f5 rfl rfl rfl rfl rfl rfl rfl ⟨rfl, rfl, rfl, rfl, rfl⟩ rfl rfl rfl rfl rfl (by kernel_rfl) Try.func5 (by kernel_rfl)
    (of_decide_eq_true (by kernel_rfl)) (by unfold Func.isWrapper; first | (rw [if_pos (by decide +kernel)]; kernel_rfl) | (rw [if_neg (by decide +kernel)]; exact ⟨rfl, rfl⟩))
    (fun os started H enc _ => fieldReckons6_lifted os started H enc)

end Go.Proofs.Ytiekipkmfopdoaa
