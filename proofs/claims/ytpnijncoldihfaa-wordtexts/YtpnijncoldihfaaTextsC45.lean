/-
  WordTexts answers true for all words x and all texts s: a word is written in both bases as the document says, and a text is read as the word that the document reads, or refused with the same error. No conditions.
-/
import Derived.Test.YtpnijncoldihfaaRows
import Derived.ProofKit
import Derived.SizedLaws
import Derived.OpenShut
import Derived.Test.YtpnijncoldihfaaTextsC03
import Derived.Test.YtpnijncoldihfaaTextsC44
namespace Go.Proofs.Ytpnijncoldihfaa
open Go.ChangeShapes Go.WideShapes Go.ChangeAt Go.RowKit Go.Shelf

theorem Try.own : ownKnob Try.prog.godebug = none := by kernel_rfl

theorem Try.laidOut : laidOutB Try.prog = true := by kernel_rfl

theorem Try.cells24 : Try.prog.cellsOf 24 = 4 := by kernel_rfl

theorem Try.cells22 : Try.prog.cellsOf 22 = 1 := by kernel_rfl

theorem four_cells {α : Type} {cs : Array α} (h : cs.size = 4) : ∃ c0 c1 c2 c3, cs = #[c0, c1, c2, c3] := by
  match cs, h with
  | ⟨[c0, c1, c2, c3]⟩, _ => exact ⟨c0, c1, c2, c3, rfl⟩

theorem u64_nat {n : Int} (h : (Lit.int .u64 n).wf = true) : ∃ k : Nat, n = k ∧ k < 18446744073709551616 := by
  have := bounds_u64 h
  exact ⟨n.toNat, by omega, by omega⟩

theorem okWide_array {P : Program} {w : World} {r : Reach} {base n : Nat} {t e : TypeId} {v : Value} (ht : P.underlying t = some (.array n e)) (h : Value.okWide P w r base t v) : ∃ cs, v = .agg cs ∧ cs.size = P.cellsOf t := by
  unfold Value.okWide at h
  rw [ht] at h
  obtain ⟨cs, h1, h2, _⟩ := h
  exact ⟨cs, h1, h2⟩

section
variable {H : Type} {enc : TypeId × Value → H} {W : World}

set_option maxRecDepth 100000 in
/-- A word that came in. -/
theorem word_open {base : Nat} {v : Value} {d : DataW H} {p : List MemPlace} (hok : Value.okWide Try.prog W .any base 24 v) (h : DataW.Trod enc Try.prog W 0 (fun _ => true) true 24 v d p) : ∃ X : Nat, v = wv X := by
  obtain ⟨cs, rfl, hsz⟩ := okWide_array Try.underlying24 hok
  obtain ⟨c0, c1, c2, c3, rfl⟩ := four_cells (hsz.trans Try.cells24)
  obtain ⟨fuel, hf⟩ := h
  obtain ⟨xs, m, _, hx, _, hl, hi⟩ := DataW.trod_array Try.underlying24 hf
  have g : ∀ i, i < 4 → ∃ n : Nat, n < 18446744073709551616 ∧ ((#[c0, c1, c2, c3] : Array Value).toList.drop i).take 1 = [.int .u64 n] := by
    intro i hi4
    have := hi i hi4
    rw [Try.cells22, Nat.mul_one, List.getElem?_eq_getElem (by omega)] at this
    obtain ⟨n, hn, _, hw⟩ := DataW.trod_int Try.underlying22 this
    obtain ⟨k, rfl, hk⟩ := u64_nat hw
    exact ⟨k, hk, hn⟩
  obtain ⟨n0, b0, e0⟩ := g 0 (by omega)
  obtain ⟨n1, b1, e1⟩ := g 1 (by omega)
  obtain ⟨n2, b2, e2⟩ := g 2 (by omega)
  obtain ⟨n3, b3, e3⟩ := g 3 (by omega)
  simp only [List.drop_zero, List.drop_succ_cons, List.take_succ_cons, List.take_zero, List.cons.injEq, and_true] at e0 e1 e2 e3
  subst e0 e1 e2 e3
  exact ⟨num n0 n1 n2 n3, wv_num b0 b1 b2 b3 (Nat.mod_eq_of_lt (num_lt b0 b1 b2 b3))⟩

end

end Go.Proofs.Ytpnijncoldihfaa

namespace Go.Proofs.Ytpnijncoldihfaa
open Go.ChangeShapes Go.WideShapes Go.ChangeAt Go.RowKit Go.Shelf

section
variable {H : Type} {enc : TypeId × Value → H} {W : World}

set_option maxRecDepth 100000 in
/-- A text that came in. -/
theorem text_open {base : Nat} {v : Value} {d : DataW H} {p : List MemPlace} (hok : Value.okWide Try.prog W .any base 9 v) (h : DataW.Trod enc Try.prog W 0 (fun _ => true) true 9 v d p)
    (hsz : ∀ bytes, d = .lit (.string bytes) → bytes.length ≤ reachBytes) : SVal v := by
  obtain ⟨fuel, hf⟩ := h
  obtain ⟨s, rfl⟩ := okWide_string Try.underlying9 hok
  obtain ⟨s', hs, hx, _⟩ := DataW.trod_string Try.underlying9 hf
  have hcells : (Value.string s).cells.toList = [.string s] := rfl
  rw [hcells] at hs
  simp only [List.cons.injEq, Value.string.injEq, and_true] at hs
  subst hs
  have hd : d = .lit (.string s.data.toList) := congrArg Prod.fst hx
  have h1 := hsz _ hd
  unfold reachBytes at h1
  rw [Array.length_toList] at h1
  have h2 : s.size = s.data.size := rfl
  exact ⟨s, rfl, by omega⟩

end

end Go.Proofs.Ytpnijncoldihfaa

namespace Go.Proofs.Ytpnijncoldihfaa
open Go.ChangeShapes Go.WideShapes Go.ChangeAt Go.RowKit Go.Shelf

set_option maxHeartbeats 1000000 in
set_option maxRecDepth 100000 in
theorem wordTexts_lifted (os : Os) (started : os.Started) (H : Type) (enc : TypeId × Value → H) :
    ReturnsInHanded {} Try.checked os 8 .any (Rows.wordTextsSpec.pre6 enc Try.prog Try.f8 Rows.wordTextsRow.domain false) (Rows.wordTextsSpec.post enc Try.prog Try.f8 false true false false) := by
  refine returnsInHanded_of_change_sized (C := Try.checked) Try.own started (by kernel_rfl) Try.func8
    (ChangeSpec.witness6 (enc := enc) (C := Try.checked) false ⟨#[], #[.agg #[.int .u64 0, .int .u64 0, .int .u64 0, .int .u64 0], .string ⟨#[]⟩], []⟩ 8 (by kernel_rfl) (by kernel_rfl) (by kernel_rfl) (by kernel_rfl)) ?_
  intro W base args ds gs before hval0 hW hcnd hsz0 _
  have hval : ∀ (j : Nat) t v, Try.f8.params[j]? = some t → args[j]? = some v → Value.okWide Try.prog W .any base t v := hval0
  have hW' := hW
  obtain ⟨p, q, hA0, hV, rfl, hfz, hnd⟩ := hW
  have hA : DataW.TrodAll enc Try.prog W 0 (fun _ => true) true Try.f8.params.toList args.toList ds p := hA0
  rw [Try.params8] at hA hval
  obtain ⟨v0, v1, d0, d1, p0, p1, rfl, rfl, rfl, h0, h1⟩ := trodAll_two hA
  obtain ⟨rfl, rfl⟩ := trodVars_none hV
  obtain ⟨X0, hX0⟩ := word_open (hval 0 24 v0 rfl rfl) h0
  have hb1 := text_open (hval 1 9 v1 rfl rfl) h1 (fun bytes e => sized_string (P := Try.prog) hsz0 (j := 1) (t := 9) (by rw [Try.params8]; rfl) (by rw [e]; rfl))
  have hlt : ∀ x ∈ p0 ++ p1, x.block < W.heap.size := fun x hx => by simpa using hW'.lt x (by simpa using hx)
  have hcall := wtexts_law X0 v1 W hb1
  rw [← hX0] at hcall
  simp only [List.append_nil] at hW'
  refine hcall.mono fun e W' ⟨he, hb⟩ => ?_
  subst he
  refine ⟨_, rfl, _, _, _, [], p0 ++ p1, [], hW', trodAll_mk1 (shut_bool Try.underlying4 true), trodAll_mk2 (Below.trod Try.laidOut (by kernel_rfl) (of_decide_eq_true (by kernel_rfl)) h0 hb (fun x hx => hlt x (by simp [hx]))) (Below.trod Try.laidOut (by kernel_rfl) (of_decide_eq_true (by kernel_rfl)) h1 hb (fun x hx => hlt x (by simp [hx]))), rfl, hb.frame _, fun h => by cases h⟩

theorem wordTexts_holds : Rows.WordTextsSaid :=
  OpenClaim.holds_of_wide 8 Try.f8 rfl rfl rfl rfl rfl rfl rfl ⟨rfl, rfl, rfl, rfl, rfl⟩ rfl rfl rfl rfl rfl (by kernel_rfl) Try.func8 (by kernel_rfl)
    (of_decide_eq_true (by kernel_rfl)) (by unfold Func.isWrapper; first | (rw [if_pos (by decide +kernel)]; kernel_rfl) | (rw [if_neg (by decide +kernel)]; exact ⟨rfl, rfl⟩))
    (fun os started H enc _ => wordTexts_lifted os started H enc)

end Go.Proofs.Ytpnijncoldihfaa
