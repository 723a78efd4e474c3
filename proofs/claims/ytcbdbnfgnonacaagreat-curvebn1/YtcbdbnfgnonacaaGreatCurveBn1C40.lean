/-
  Sums, negatives and multiples of any points of bn254's E1, and whether they may be, are the document's, whatever the input.
-/
import Derived.Test.YtcbdbnfgnonacaaGreatRows
import Derived.ProofKit
import Derived.SizedLaws
import Derived.OpenShut
import Derived.Test.YtcbdbnfgnonacaaGreatCurveBn1C28
import Derived.Test.YtcbdbnfgnonacaaGreatCurveBn1C11
import Derived.Test.YtcbdbnfgnonacaaGreatCurveBn1C30
import Derived.Deep.CondSized
import Derived.Test.YtcbdbnfgnonacaaGreatCurveBn1C39
namespace Go.Proofs.YtcbdbnfgnonacaaGreat
open Go.ChangeShapes Go.WideShapes Go.ChangeAt Go.RowKit Go.Shelf

theorem Tryz.own : ownKnob Tryz.prog.godebug = none := by kernel_rfl

theorem Tryz.laidOut : laidOutB Tryz.prog = true := by kernel_rfl

theorem Tryz.cellsWd : Tryz.prog.cellsOf 65 = 4 := by kernel_rfl

theorem Tryz.cells6 : Tryz.prog.cellsOf 28 = 6 := by kernel_rfl

theorem Tryz.cellsU : Tryz.prog.cellsOf 27 = 1 := by kernel_rfl

theorem Tryz.cellsB : Tryz.prog.cellsOf 4 = 1 := by kernel_rfl

theorem Tryz.cellsPn : Tryz.prog.cellsOf 30 = 25 := by kernel_rfl

theorem Tryz.undWd : Tryz.prog.underlying 65 = some (.array 4 27) := by kernel_rfl

theorem Tryz.und6 : Tryz.prog.underlying 28 = some (.array 6 27) := by kernel_rfl

theorem Tryz.undU : Tryz.prog.underlying 27 = some (.int .u64) := by kernel_rfl

theorem Tryz.undBo : Tryz.prog.underlying 4 = some .bool := by kernel_rfl

theorem four_cells {α : Type} {cs : Array α} (h : cs.size = 4) : ∃ c0 c1 c2 c3, cs = #[c0, c1, c2, c3] := by
  match cs, h with
  | ⟨[c0, c1, c2, c3]⟩, _ => exact ⟨c0, c1, c2, c3, rfl⟩

theorem six_list {α : Type} {cs : List α} (h : cs.length = 6) : ∃ c0 c1 c2 c3 c4 c5, cs = [c0, c1, c2, c3, c4, c5] := by
  match cs, h with
  | [c0, c1, c2, c3, c4, c5], _ => exact ⟨c0, c1, c2, c3, c4, c5, rfl⟩

theorem u64_nat {n : Int} (h : (Lit.int .u64 n).wf = true) : ∃ k : Nat, n = k ∧ k < 18446744073709551616 := by
  have := bounds_u64 h
  exact ⟨n.toNat, by omega, by omega⟩

theorem okWide_array {P : Program} {w : World} {r : Reach} {base n : Nat} {t e : TypeId} {v : Value} (ht : P.underlying t = some (.array n e)) (h : Value.okWide P w r base t v) : ∃ cs, v = .agg cs ∧ cs.size = P.cellsOf t := by
  unfold Value.okWide at h
  rw [ht] at h
  obtain ⟨cs, h1, h2, _⟩ := h
  exact ⟨cs, h1, h2⟩

theorem okWide_struct {P : Program} {w : World} {r : Reach} {base : Nat} {t : TypeId} {fs : Array Field} {v : Value} (ht : P.underlying t = some (.struct fs)) (h : Value.okWide P w r base t v) : ∃ cs, v = .agg cs ∧ cs.size = P.cellsOf t := by
  unfold Value.okWide at h
  rw [ht] at h
  obtain ⟨cs, h1, h2, _⟩ := h
  exact ⟨cs, h1, h2⟩

section
variable {H : Type} {enc : TypeId × Value → H} {W : World}

set_option maxRecDepth 100000 in
/-- A word that came in. -/
theorem wordn_open {base : Nat} {v : Value} {d : DataW H} {p : List MemPlace} (hok : Value.okWide Tryz.prog W .any base 65 v) (h : DataW.Trod enc Tryz.prog W 0 (fun _ => true) true 65 v d p) : ∃ X : Nat, v = W4.wv X ∧ X < W4.R := by
  obtain ⟨cs, rfl, hsz⟩ := okWide_array Tryz.undWd hok
  obtain ⟨c0, c1, c2, c3, rfl⟩ := four_cells (hsz.trans Tryz.cellsWd)
  obtain ⟨fuel, hf⟩ := h
  obtain ⟨xs, m, _, hx, _, hl, hi⟩ := DataW.trod_array Tryz.undWd hf
  have g : ∀ i, i < 4 → ∃ n : Nat, n < 18446744073709551616 ∧ ((#[c0, c1, c2, c3] : Array Value).toList.drop i).take 1 = [.int .u64 n] := by
    intro i hi4
    have := hi i hi4
    rw [Tryz.cellsU, Nat.mul_one, List.getElem?_eq_getElem (by omega)] at this
    obtain ⟨n, hn, _, hw⟩ := DataW.trod_int Tryz.undU this
    obtain ⟨k, rfl, hk⟩ := u64_nat hw
    exact ⟨k, hk, hn⟩
  obtain ⟨n0, b0, e0⟩ := g 0 (by omega)
  obtain ⟨n1, b1, e1⟩ := g 1 (by omega)
  obtain ⟨n2, b2, e2⟩ := g 2 (by omega)
  obtain ⟨n3, b3, e3⟩ := g 3 (by omega)
  simp only [List.drop_zero, List.drop_succ_cons, List.take_succ_cons, List.take_zero, List.cons.injEq, and_true] at e0 e1 e2 e3
  subst e0 e1 e2 e3
  have hlt : ∀ j, j < 4 → (fun j => if j = 0 then n0 else if j = 1 then n1 else if j = 2 then n2 else n3) j < 18446744073709551616 := fun j _ => by
    simp only
    repeat' split
    all_goals assumption
  exact ⟨val (fun j => if j = 0 then n0 else if j = 1 then n1 else if j = 2 then n2 else n3) 4, W4.wv_val hlt, W4.val_ltR hlt⟩

set_option maxRecDepth 100000 in
theorem six_in {fuel : Nat} {l : List Value} {x : DataW H × List MemPlace} (h : DataW.trod enc Tryz.prog W 0 (fun _ => true) true fuel 28 l = some x) : ∃ X : Nat, l = (W6.cs (limb X)).toList ∧ X < W6.R := by
  obtain ⟨xs, m, _, hx, hlen, hl, hi⟩ := DataW.trod_array Tryz.und6 h
  obtain ⟨c0, c1, c2, c3, c4, c5, rfl⟩ := six_list (hlen.trans Tryz.cells6)
  have g : ∀ i, i < 6 → ∃ n : Nat, n < 18446744073709551616 ∧ (([c0, c1, c2, c3, c4, c5] : List Value).drop i).take 1 = [.int .u64 n] := by
    intro i hi4
    have := hi i hi4
    rw [Tryz.cellsU, Nat.mul_one, List.getElem?_eq_getElem (by omega)] at this
    obtain ⟨n, hn, _, hw⟩ := DataW.trod_int Tryz.undU this
    obtain ⟨k, rfl, hk⟩ := u64_nat hw
    exact ⟨k, hk, hn⟩
  obtain ⟨n0, b0, e0⟩ := g 0 (by omega)
  obtain ⟨n1, b1, e1⟩ := g 1 (by omega)
  obtain ⟨n2, b2, e2⟩ := g 2 (by omega)
  obtain ⟨n3, b3, e3⟩ := g 3 (by omega)
  obtain ⟨n4, b4, e4⟩ := g 4 (by omega)
  obtain ⟨n5, b5, e5⟩ := g 5 (by omega)
  simp only [List.drop_zero, List.drop_succ_cons, List.take_succ_cons, List.take_zero, List.cons.injEq, and_true] at e0 e1 e2 e3 e4 e5
  subst e0 e1 e2 e3 e4 e5
  have hlt : ∀ j, j < 6 → (fun j => if j = 0 then n0 else if j = 1 then n1 else if j = 2 then n2 else if j = 3 then n3 else if j = 4 then n4 else n5) j < 18446744073709551616 := fun j _ => by
    simp only
    repeat' split
    all_goals assumption
  have hv : (Value.agg #[.int .u64 n0, .int .u64 n1, .int .u64 n2, .int .u64 n3, .int .u64 n4, .int .u64 n5]) = W6.wv (val (fun j => if j = 0 then n0 else if j = 1 then n1 else if j = 2 then n2 else if j = 3 then n3 else if j = 4 then n4 else n5) 6) := W6.wv_val hlt
  refine ⟨_, ?_, W6.val_ltR hlt⟩
  have h2 := congrArg (fun v => v.cells.toList) hv
  exact h2

theorem cut25 {α : Type} (l : List α) : l = (l.drop 0).take 6 ++ ((l.drop 6).take 6 ++ ((l.drop 12).take 6 ++ ((l.drop 18).take 6 ++ l.drop 24))) := by
  have h1 := List.take_append_drop 6 (l.drop 18)
  have h2 := List.take_append_drop 6 (l.drop 12)
  have h3 := List.take_append_drop 6 (l.drop 6)
  have h4 := List.take_append_drop 6 l
  rw [List.drop_drop] at h1 h2 h3
  rw [h1, h2, h3, List.drop_zero, h4]

set_option maxRecDepth 100000 in
/-- A plain point that came in. -/
theorem plain_open {base : Nat} {v : Value} {d : DataW H} {p : List MemPlace} (hok : Value.okWide Tryz.prog W .any base 30 v) (h : DataW.Trod enc Tryz.prog W 0 (fun _ => true) true 30 v d p) : ∃ (a b c e : Nat) (i : Bool), v = .agg (pn a b c e i) ∧ a < W6.R ∧ b < W6.R ∧ c < W6.R ∧ e < W6.R := by
  obtain ⟨cs, rfl, hsz⟩ := okWide_struct underPn hok
  obtain ⟨fuel, hf⟩ := h
  obtain ⟨xs, m, _, hx, hl, hlen, hi⟩ := DataW.trod_struct underPn hf
  have hl5 : xs.length = 5 := hlen.trans (by kernel_rfl)
  have t0 : ((fsOf (Tryz.prog.underlying 30))[0]!).type = 28 ∧ ((fsOf (Tryz.prog.underlying 30))[0]!).offset = 0 := ⟨by kernel_rfl, by kernel_rfl⟩
  have t1 : ((fsOf (Tryz.prog.underlying 30))[1]!).type = 28 ∧ ((fsOf (Tryz.prog.underlying 30))[1]!).offset = 6 := ⟨by kernel_rfl, by kernel_rfl⟩
  have t2 : ((fsOf (Tryz.prog.underlying 30))[2]!).type = 28 ∧ ((fsOf (Tryz.prog.underlying 30))[2]!).offset = 12 := ⟨by kernel_rfl, by kernel_rfl⟩
  have t3 : ((fsOf (Tryz.prog.underlying 30))[3]!).type = 28 ∧ ((fsOf (Tryz.prog.underlying 30))[3]!).offset = 18 := ⟨by kernel_rfl, by kernel_rfl⟩
  have t4 : ((fsOf (Tryz.prog.underlying 30))[4]!).type = 4 ∧ ((fsOf (Tryz.prog.underlying 30))[4]!).offset = 24 := ⟨by kernel_rfl, by kernel_rfl⟩
  have f0 := hi 0 ((fsOf (Tryz.prog.underlying 30))[0]!) (by kernel_rfl)
  have f1 := hi 1 ((fsOf (Tryz.prog.underlying 30))[1]!) (by kernel_rfl)
  have f2 := hi 2 ((fsOf (Tryz.prog.underlying 30))[2]!) (by kernel_rfl)
  have f3 := hi 3 ((fsOf (Tryz.prog.underlying 30))[3]!) (by kernel_rfl)
  have f4 := hi 4 ((fsOf (Tryz.prog.underlying 30))[4]!) (by kernel_rfl)
  rw [t0.1, t0.2, Tryz.cells6, List.getElem?_eq_getElem (by omega)] at f0
  rw [t1.1, t1.2, Tryz.cells6, List.getElem?_eq_getElem (by omega)] at f1
  rw [t2.1, t2.2, Tryz.cells6, List.getElem?_eq_getElem (by omega)] at f2
  rw [t3.1, t3.2, Tryz.cells6, List.getElem?_eq_getElem (by omega)] at f3
  rw [t4.1, t4.2, Tryz.cellsB, List.getElem?_eq_getElem (by omega)] at f4
  obtain ⟨a, ea, ha⟩ := six_in f0
  obtain ⟨b, eb, hb⟩ := six_in f1
  obtain ⟨c, ec, hc⟩ := six_in f2
  obtain ⟨e, ee, he⟩ := six_in f3
  obtain ⟨i, ei, _⟩ := DataW.trod_bool Tryz.undBo f4
  refine ⟨a, b, c, e, i, ?_, ha, hb, hc, he⟩
  have hlen25 : (Value.agg cs).cells.toList.length = 25 := hl.trans Tryz.cellsPn
  have h24 : (Value.agg cs).cells.toList.drop 24 = [.bool i] := by
    rw [← ei, List.take_of_length_le (by rw [List.length_drop]; omega)]
  have hcut := cut25 (Value.agg cs).cells.toList
  rw [ea, eb, ec, ee, h24] at hcut
  congr 1
  rw [pn_eq]
  apply Array.ext'
  simp only [Array.toList_append]
  exact hcut

end

end Go.Proofs.YtcbdbnfgnonacaaGreat

namespace Go.Proofs.YtcbdbnfgnonacaaGreat
open Go.ChangeShapes Go.WideShapes Go.ChangeAt Go.RowKit Go.Shelf

set_option maxHeartbeats 1000000 in
set_option maxRecDepth 100000 in
theorem curveBn1_lifted (os : Os) (started : os.Started) (H : Type) (enc : TypeId × Value → H) :
    ReturnsInHanded {} Tryz.checked os 4 .any (Rows.curveBn1Spec.pre6 enc Tryz.prog Tryz.f4 Rows.curveBn1Row.domain false) (Rows.curveBn1Spec.post enc Tryz.prog Tryz.f4 false true false false) := by
  refine returnsInHanded_of_change_sized (C := Tryz.checked) Tryz.own started (by kernel_rfl) Tryz.func4
    (ChangeSpec.witness6 (enc := enc) (C := Tryz.checked) false ⟨#[], #[.agg #[.int .u64 0, .int .u64 0, .int .u64 0, .int .u64 0, .int .u64 0, .int .u64 0, .int .u64 0, .int .u64 0, .int .u64 0, .int .u64 0, .int .u64 0, .int .u64 0, .int .u64 0, .int .u64 0, .int .u64 0, .int .u64 0, .int .u64 0, .int .u64 0, .int .u64 0, .int .u64 0, .int .u64 0, .int .u64 0, .int .u64 0, .int .u64 0, .bool false], .agg #[.int .u64 0, .int .u64 0, .int .u64 0, .int .u64 0, .int .u64 0, .int .u64 0, .int .u64 0, .int .u64 0, .int .u64 0, .int .u64 0, .int .u64 0, .int .u64 0, .int .u64 0, .int .u64 0, .int .u64 0, .int .u64 0, .int .u64 0, .int .u64 0, .int .u64 0, .int .u64 0, .int .u64 0, .int .u64 0, .int .u64 0, .int .u64 0, .bool false], .agg #[.int .u64 0, .int .u64 0, .int .u64 0, .int .u64 0]], []⟩ 8 (by kernel_rfl) (by kernel_rfl) (by kernel_rfl) (by kernel_rfl)) ?_
  intro W base args ds gs before hval0 hW hcnd hsz0 _
  have hval : ∀ (j : Nat) t v, Tryz.f4.params[j]? = some t → args[j]? = some v → Value.okWide Tryz.prog W .any base t v := hval0
  have hW' := hW
  obtain ⟨p, q, hA0, hV, rfl, hfz, hnd⟩ := hW
  have hA : DataW.TrodAll enc Tryz.prog W 0 (fun _ => true) true Tryz.f4.params.toList args.toList ds p := hA0
  rw [Tryz.params4] at hA hval
  obtain ⟨v0, vs0, d0, ds0, p0, q0, hargs0, rfl, rfl, h0, r0⟩ := trodAll_cons hA
  obtain ⟨v1, vs1, d1, ds1, p1, q1, hargs1, rfl, rfl, h1, r1⟩ := trodAll_cons r0
  obtain ⟨v2, vs2, d2, ds2, p2, q2, hargs2, rfl, rfl, h2, r2⟩ := trodAll_cons r1
  obtain ⟨rfl, rfl, rfl⟩ := trodAll_nil r2
  obtain ⟨rfl, rfl⟩ := trodVars_none hV
  subst hargs2
  subst hargs1
  obtain rfl : args = #[v0, v1, v2] := by cases args; simp_all
  obtain ⟨a0, b0, c0, e0, z0, rfl, _, _, _, _⟩ := plain_open (hval 0 30 v0 rfl rfl) h0
  obtain ⟨a1, b1, c1, e1, z1, rfl, _, _, _, _⟩ := plain_open (hval 1 30 v1 rfl rfl) h1
  obtain ⟨X2, rfl, hX2⟩ := wordn_open (hval 2 65 v2 rfl rfl) h2
  have hlt : ∀ x ∈ p0 ++ (p1 ++ (p2 ++ ([]))), x.block < W.heap.size := fun x hx => by simpa using hW'.lt x (by simpa using hx)
  have hcall := curveBn1_any a0 b0 c0 e0 z0 a1 b1 c1 e1 z1 X2 hX2 W 
  simp only [List.append_nil] at hW'
  refine hcall.mono fun e W' ⟨he, hb⟩ => ?_
  subst he
  refine ⟨_, rfl, [d0, d1, d2], [], _, [], p0 ++ (p1 ++ (p2 ++ ([]))), [], hW', trodAll_mk1 (shut_bool Tryz.underlying4 true), (trodAll_cons_mk (Below.trod Tryz.laidOut (by kernel_rfl) (of_decide_eq_true (by kernel_rfl)) h0 hb (fun x hx => hlt x (by simp [hx]))) (trodAll_cons_mk (Below.trod Tryz.laidOut (by kernel_rfl) (of_decide_eq_true (by kernel_rfl)) h1 hb (fun x hx => hlt x (by simp [hx]))) (trodAll_cons_mk (Below.trod Tryz.laidOut (by kernel_rfl) (of_decide_eq_true (by kernel_rfl)) h2 hb (fun x hx => hlt x (by simp [hx]))) trodAll_mk0))), rfl, hb.frame _, fun h => by cases h⟩

theorem curveBn1_holds : Rows.CurveBn1Said :=
  OpenClaim.holds_of_wide 4 Tryz.f4 rfl rfl rfl rfl rfl rfl rfl ⟨rfl, rfl, rfl, rfl, rfl⟩ rfl rfl rfl rfl rfl (by kernel_rfl) Tryz.func4 (by kernel_rfl)
    (of_decide_eq_true (by kernel_rfl)) (by unfold Func.isWrapper; first | (rw [if_pos (by decide +kernel)]; kernel_rfl) | (rw [if_neg (by decide +kernel)]; exact ⟨rfl, rfl⟩))
    (fun os started H enc _ => curveBn1_lifted os started H enc)

end Go.Proofs.YtcbdbnfgnonacaaGreat
