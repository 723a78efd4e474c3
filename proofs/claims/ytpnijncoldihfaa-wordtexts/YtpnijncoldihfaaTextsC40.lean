/-
  Any number of calls in a row beside one variable that is made, whichever comes first.
-/
import Derived.Test.YtpnijncoldihfaaTextsC27
import Derived.Test.YtpnijncoldihfaaTextsC39
import Derived.Test.YtpnijncoldihfaaTextsC28
namespace Go.Proofs.Ytpnijncoldihfaa
open Go.RowKit Go.Shelf

theorem strD_size (b X n : Nat) : (strD b X n).size = n := by
  show ((List.range n).map (fun j => UInt8.ofNat (digB b X n j))).toArray.size = n
  simp

/-- The text to the base 16. -/
def hexT (X n : Nat) : ByteArray := ⟨#[48, 120]⟩ ++ strD 16 X n

set_option maxHeartbeats 1000000 in
set_option maxRecDepth 100000 in
theorem hex_any (X : Nat) (hX : X < M256) (w : World) : Calls Try.prog 76 #[wv X] w fun e w' => (∃ n, ND 16 X n ∧ e = .returned (.string (hexT X n))) ∧ Below w.heap.size w w' := by
  have h := fun W => digits_any X 16 hX (Or.inr rfl) W
  obtain ⟨x0, x1, x2, x3, hx⟩ := wv_form X
  simp only [hx] at h ⊢
  have H := hideP h
  clear h hx
  go_enter Try.func76, Try.ntmps76
  go_wp2_with fail
  refine (H.out _).mono ?_
  rintro e w1 ⟨⟨n, h78, hn, rfl⟩, hb⟩
  have hsz : ¬ 9223372036854775807 < 2 + (strD 16 X n).size := by rw [strD_size]; omega
  have HB1 : Hid (Below w.heap.size w w1) := by
    first
      | exact ((Below.refl _ w).alloc (Nat.le_refl _) _).trans (hb.mono (by simp))
      | exact hb
  have HN := hideP hn
  clear hb hn h78
  go_wp2_with fail
  go_ret
  exact ⟨⟨n, HN.out, rfl⟩, HB1.out⟩

set_option maxHeartbeats 1000000 in
set_option maxRecDepth 100000 in
theorem dec_any (X : Nat) (hX : X < M256) (w : World) : Calls Try.prog 78 #[wv X] w fun e w' => (∃ n, n ≤ 78 ∧ ND 10 X n ∧ e = .returned (.string (strD 10 X n))) ∧ Below w.heap.size w w' := by
  have h := fun W => digits_any X 10 hX (Or.inl rfl) W
  obtain ⟨x0, x1, x2, x3, hx⟩ := wv_form X
  simp only [hx] at h ⊢
  have H := hideP h
  clear h hx
  go_enter Try.func78, Try.ntmps78
  go_wp2_with fail
  refine (H.out _).mono ?_
  rintro e w1 ⟨⟨n, h78, hn, rfl⟩, hb⟩
  have HB1 : Hid (Below w.heap.size w w1) := by
    first
      | exact ((Below.refl _ w).alloc (Nat.le_refl _) _).trans (hb.mono (by simp))
      | exact hb
  have HN := hideP hn
  have H78 := hideP h78
  clear hb hn h78
  go_wp2_with fail
  go_ret
  exact ⟨⟨n, H78.out, HN.out, rfl⟩, HB1.out⟩

end Go.Proofs.Ytpnijncoldihfaa

namespace Go.Proofs.Ytpnijncoldihfaa
open Go.RowKit Go.Shelf

theorem TO_get {d1 : Nat} {l : List Value} {p : Option Nat} {x : Nat} (h1 : x ≠ d1) : (setO d1 p l)[x]? = l[x]? := setO_get (Ne.symm h1)

/-- Which operations may come up, state by state. -/
def chkO (md : Region.Mode) (ops : Array Oper) (n : Nat) (ci : Nat → Nat) (a1 : Nat) (L : Nat → Bool → Array Bool) : Bool :=
  ((List.range n).all fun i => [false, true].all fun p =>
    !(Region.ready md ops (L i p)).isEmpty && ((Region.ready md ops (L i p)).all fun j => j == ci i || (j == a1 && !p)) &&
    decide ((L i p).setIfInBounds (ci i) true = L (i + 1) p) && decide ((L i false).setIfInBounds a1 true = L i true)) &&
  decide (Region.ready md ops (L n false) = [a1]) && decide ((L n false).setIfInBounds a1 true = L n true)

/-- A state of the calls. -/
structure StO (zc : Array Value) (t d1 : Nat) (cd : Nat → Nat) (V : Nat → Value) (L : Nat → Bool → Array Bool) (l : List Value) (ds : List Deferred) (W0 : World) (n m k : Nat) (listed : Array Bool) (a : Act) (w : World) (i : Nat) (p : Option Nat) : Prop where
  i2 : i ≤ n
  k : k + i + one? p = m
  listed : listed = L i p.isSome
  a : a = { tmps := (setO d1 p (TC cd V l i)).toArray, defers := ds }
  b : Below W0.heap.size W0 w
  fp : FreshZ zc t W0.heap.size w p

theorem regionO {P : Program} {md : Region.Mode} {ops : Array Oper} {Q : Exit → Act → World → Prop} {W0 w : World} {l : List Value} {ds : List Deferred} {r : Nat} {listed : Array Bool} (n : Nat) (ci cd : Nat → Nat) (V : Nat → Value) (L : Nat → Bool → Array Bool) (zc : Array Value) (t a1 d1 : Nat)
    (hchk : chkO md ops n ci a1 L = true) (hcd : ∀ i, i < n → d1 ≠ cd i) (hlisted : listed = L 0 false) (hw : Below W0.heap.size W0 w)
    (hc : ∀ i, i < n → ∀ (T : List Value) (w : World) (K : Act → World → Prop), (∀ x, x ≠ d1 → T[x]? = (TC cd V l i)[x]?) → (∀ w', Below w.heap.size w w' → K { tmps := (T.set (cd i) (V i)).toArray, defers := ds } w') → wpOp P ops Q (ci i) K { tmps := T.toArray, defers := ds } w)
    (h1 : ∀ (T : List Value) (w : World) (K : Act → World → Prop), K { tmps := (T.set d1 (.pointer (some ⟨w.heap.size, 0, none⟩))).toArray, defers := ds } (w.alloc (.cells zc t (0, 0))) → wpOp P ops Q a1 K { tmps := T.toArray, defers := ds } w)
    (hend : ∀ (w : World) (b1 : Nat), Below W0.heap.size W0 w → W0.heap.size ≤ b1 → w.heap[b1]? = some (.cells zc t (0, 0)) →
      wpAnyH P md ops Q (fun V => Below W0.heap.size W0 V) r (L n true) { tmps := ((TC cd V l n).set d1 (.pointer (some ⟨b1, 0, none⟩))).toArray, defers := ds } w) :
    wpAnyH P md ops Q (fun V => Below W0.heap.size W0 V) (r + 1 + n) listed { tmps := l.toArray, defers := ds } w := by
  refine wpAnyH_stageE (Φ := fun k listed a w => ∃ i p, StO zc t d1 cd V L l ds W0 n (r + 1 + n) k listed a w i p) ?_ (r + 1 + n) listed _ w ⟨0, none, ⟨by omega, by simp [one?], hlisted, rfl, hw, FreshZ.none⟩⟩
  rintro k listed a w ⟨i, p, I⟩
  obtain ⟨hi2, hk, hli, ha, hb, fp⟩ := I
  subst hli ha
  unfold chkO at hchk
  simp only [Bool.and_eq_true, decide_eq_true_eq] at hchk
  obtain ⟨⟨hchk, hE⟩, hE2⟩ := hchk
  have hone : one? p ≤ 1 := by unfold one?; split <;> omega
  by_cases hin : i = n
  · subst hin
    cases p with
    | some b1 =>
      have e : k = r := by simp [one?] at hk; omega
      subst e
      exact Or.inl (hend w b1 hb (fp b1 rfl).1 (fp b1 rfl).2)
    | none =>
      obtain ⟨k', rfl⟩ : ∃ k', k = k' + 1 := ⟨k - 1, by simp [one?] at hk; omega⟩
      refine Or.inr ⟨k', rfl, by show Region.ready md ops (L i false) ≠ []; rw [hE]; simp, fun j hj => ?_⟩
      replace hj : j ∈ Region.ready md ops (L i false) := hj
      rw [hE, List.mem_singleton] at hj
      subst hj
      exact h1 _ w _ ⟨hb.alloc hb.size _, i, some w.heap.size, ⟨hi2, by simp [one?] at hk ⊢; omega, hE2, rfl, hb.alloc hb.size _, FreshZ.new hb.size⟩⟩
  · have hlt : i < n := by omega
    have hbb : ∀ b : Bool, b ∈ [false, true] := fun b => by cases b <;> simp
    have g := List.all_eq_true.1 (List.all_eq_true.1 hchk i (List.mem_range.2 hlt)) p.isSome (hbb _)
    simp only [Bool.and_eq_true, decide_eq_true_eq] at g
    obtain ⟨⟨⟨g1, g2⟩, g3⟩, g4⟩ := g
    obtain ⟨k', rfl⟩ : ∃ k', k = k' + 1 := ⟨k - 1, by omega⟩
    refine Or.inr ⟨k', rfl, not_isEmpty g1, fun j hj => ?_⟩
    have g6 := List.all_eq_true.1 g2 j hj
    simp only [Bool.or_eq_true, Bool.and_eq_true, beq_iff_eq, Bool.not_eq_true'] at g6
    rcases g6 with rfl | ⟨rfl, hn⟩
    · refine hc i hlt _ w _ (fun x x1 => TO_get x1) (fun w' hb' => ⟨hb.trans (hb'.mono hb.size), i + 1, p, ⟨hlt, by omega, g3, by rw [setO_set (hcd i hlt)]; rfl, hb.trans (hb'.mono hb.size), fp.call hb'⟩⟩)
    · have e : p = none := by cases p with | none => rfl | some _ => cases hn
      subst e
      refine h1 _ w _ ⟨hb.alloc hb.size _, i, some w.heap.size, ⟨hi2, by simp [one?] at hk ⊢; omega, g4, rfl, hb.alloc hb.size _, FreshZ.new hb.size⟩⟩

end Go.Proofs.Ytpnijncoldihfaa
