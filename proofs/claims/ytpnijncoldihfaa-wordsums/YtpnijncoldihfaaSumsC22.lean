/-
  Two calls beside two variables that are made, whichever comes first; the variables are of any cells.
-/
import Derived.Test.YtpnijncoldihfaaSumsC21
namespace Go.Proofs.Ytpnijncoldihfaa
open Go.RowKit Go.Shelf

/-- What is listed: the loads, so many calls, these variables. -/
def L22 (i : Nat) (p q : Bool) : Array Bool := #[true, decide (1 ≤ i), true, decide (2 ≤ i), p, q, false, false]

/-- Which operations may come up, state by state. -/
def chk22 (md : Region.Mode) (ops : Array Oper) : Bool :=
  [0, 1, 2].all fun i => [false, true].all fun p => [false, true].all fun q =>
    ((i == 2 && p && q) || !(Region.ready md ops (L22 i p q)).isEmpty) &&
    (Region.ready md ops (L22 i p q)).all fun j => (decide (i < 2) && j == 1 + 2 * i) || (j == 4 && !p) || (j == 5 && !q) || (i == 2 && p && q)

theorem ready22 {md : Region.Mode} {ops : Array Oper} (h : chk22 md ops = true) {i : Nat} (hi : i ≤ 2) (p q : Bool) (hx : ¬ (i = 2 ∧ p = true ∧ q = true)) :
    Region.ready md ops (L22 i p q) ≠ [] ∧ ∀ j ∈ Region.ready md ops (L22 i p q), (i < 2 ∧ j = 1 + 2 * i) ∨ (j = 4 ∧ p = false) ∨ (j = 5 ∧ q = false) := by
  have h1 : i ∈ [0, 1, 2] := by
    rcases (show i = 0 ∨ i = 1 ∨ i = 2 by omega) with h | h | h <;> simp [h]
  have hb : ∀ b : Bool, b ∈ [false, true] := fun b => by cases b <;> simp
  have h2 := List.all_eq_true.1 (List.all_eq_true.1 (List.all_eq_true.1 h i h1) p (hb p)) q (hb q)
  simp only [Bool.and_eq_true, Bool.or_eq_true, List.all_eq_true] at h2
  obtain ⟨h3, h4⟩ := h2
  refine ⟨?_, fun j hj => ?_⟩
  · rcases h3 with h3 | h3
    · exfalso
      apply hx
      simpa [and_assoc] using h3
    · intro h0
      rw [h0] at h3
      simp at h3
  · have h5 := h4 j hj
    simp only [decide_eq_true_eq, beq_iff_eq, Bool.not_eq_true'] at h5
    rcases h5 with ((h5 | h5) | h5) | h5
    · exact Or.inl h5
    · exact Or.inr (Or.inl h5)
    · exact Or.inr (Or.inr h5)
    · exfalso
      apply hx
      obtain ⟨⟨a, b⟩, c⟩ := h5
      exact ⟨a, b, c⟩

/-- A new variable of these cells. -/
def FreshZ (zc : Array Value) (t N : Nat) (w : World) (p : Option Nat) : Prop := ∀ b, p = some b → N ≤ b ∧ w.heap[b]? = some (.cells zc t (0, 0))

section
variable {zc : Array Value} {t N : Nat} {w w' : World} {p : Option Nat}
theorem FreshZ.none : FreshZ zc t N w none := fun _ h => by cases h

theorem FreshZ.call (h : FreshZ zc t N w p) (hb : Below w.heap.size w w') : FreshZ zc t N w' p := fun b e => by
  obtain ⟨h1, h2⟩ := h b e
  exact ⟨h1, (hb.block b (lt_of_block h2)).trans h2⟩

theorem FreshZ.alloc (h : FreshZ zc t N w p) (o : Obj) : FreshZ zc t N (w.alloc o) p := fun b e => by
  obtain ⟨h1, h2⟩ := h b e
  exact ⟨h1, (heap_old _ _ (lt_of_block h2)).trans h2⟩

theorem FreshZ.new (hN : N ≤ w.heap.size) : FreshZ zc t N (w.alloc (.cells zc t (0, 0))) (some w.heap.size) := fun b e => by
  cases e
  exact ⟨hN, heap_new _ _⟩

theorem FreshZ.apart (h : FreshZ zc t N w p) : Apart (some w.heap.size) p := fun b c e1 e2 => by
  cases e1
  have := lt_of_block (h c e2).2
  omega

end

/-- The slots of a state. -/
def T22 (c1 c2 d1 d2 : Nat) (V1 V2 : Value) (l : List Value) (i : Nat) (p q : Option Nat) : List Value :=
  setO d2 q (setO d1 p (setC c2 (decide (2 ≤ i)) V2 (setC c1 (decide (1 ≤ i)) V1 l)))

/-- A state. -/
structure St22 (zc : Array Value) (t c1 c2 d1 d2 : Nat) (V1 V2 : Value) (l : List Value) (ds : List Deferred) (W0 : World) (k : Nat) (listed : Array Bool) (a : Act) (w : World) (i : Nat) (p q : Option Nat) : Prop where
  i2 : i ≤ 2
  k : k + i + (if p.isSome then 1 else 0) + (if q.isSome then 1 else 0) = 4
  listed : listed = L22 i p.isSome q.isSome
  a : a = { tmps := (T22 c1 c2 d1 d2 V1 V2 l i p q).toArray, defers := ds }
  b : Below W0.heap.size W0 w
  fp : FreshZ zc t W0.heap.size w p
  fq : FreshZ zc t W0.heap.size w q
  pq : Apart p q

section
variable {c1 c2 d1 d2 : Nat} {V1 V2 : Value} {l : List Value} {i : Nat} {p q : Option Nat}

/-- No two slots are one. -/
def slots22 (c1 c2 d1 d2 : Nat) : Bool := decide (List.Nodup [c1, c2, d1, d2])

theorem T22_get {x : Nat} (h : x ∉ [c1, c2, d1, d2]) : (T22 c1 c2 d1 d2 V1 V2 l i p q)[x]? = l[x]? := by
  simp only [List.mem_cons, List.not_mem_nil, or_false, not_or] at h
  obtain ⟨h1, h2, h5, h6⟩ := h
  unfold T22
  rw [setO_get (Ne.symm h6), setO_get (Ne.symm h5), setC_get (Ne.symm h2), setC_get (Ne.symm h1)]

theorem T22_call1 (hs : slots22 c1 c2 d1 d2 = true) : (T22 c1 c2 d1 d2 V1 V2 l 0 p q).set c1 V1 = T22 c1 c2 d1 d2 V1 V2 l 1 p q := by
  unfold slots22 at hs
  have h := of_decide_eq_true hs
  simp only [List.nodup_cons, List.mem_cons, List.not_mem_nil, or_false, not_or] at h
  obtain ⟨⟨n12, m11, m12⟩, ⟨m21, m22⟩, o12, _⟩ := h
  unfold T22
  rw [setO_set (Ne.symm m12), setO_set (Ne.symm m11)]
  simp [setC]

theorem T22_call2 (hs : slots22 c1 c2 d1 d2 = true) : (T22 c1 c2 d1 d2 V1 V2 l 1 p q).set c2 V2 = T22 c1 c2 d1 d2 V1 V2 l 2 p q := by
  unfold slots22 at hs
  have h := of_decide_eq_true hs
  simp only [List.nodup_cons, List.mem_cons, List.not_mem_nil, or_false, not_or] at h
  obtain ⟨⟨n12, m11, m12⟩, ⟨m21, m22⟩, o12, _⟩ := h
  unfold T22
  rw [setO_set (Ne.symm m22), setO_set (Ne.symm m21)]
  simp [setC]

theorem T22_p (hs : slots22 c1 c2 d1 d2 = true) (b : Nat) : (T22 c1 c2 d1 d2 V1 V2 l i none q).set d1 (.pointer (some ⟨b, 0, none⟩)) = T22 c1 c2 d1 d2 V1 V2 l i (some b) q := by
  unfold slots22 at hs
  have h := of_decide_eq_true hs
  simp only [List.nodup_cons, List.mem_cons, List.not_mem_nil, or_false, not_or] at h
  obtain ⟨⟨n12, m11, m12⟩, ⟨m21, m22⟩, o12, _⟩ := h
  unfold T22
  rw [setO_set (Ne.symm o12)]
  rfl

theorem T22_q (b : Nat) : (T22 c1 c2 d1 d2 V1 V2 l i p none).set d2 (.pointer (some ⟨b, 0, none⟩)) = T22 c1 c2 d1 d2 V1 V2 l i p (some b) := rfl

end

/-- Two calls in a row beside two variables that are made: in whatever order, all are done in the end. -/
theorem region22 {P : Program} {md : Region.Mode} {ops : Array Oper} {Q : Exit → Act → World → Prop} {W0 w : World} {l : List Value} {ds : List Deferred} {r : Nat} {listed : Array Bool} (zc : Array Value) (t c1 c2 d1 d2 : Nat) (V1 V2 : Value)
    (hchk : chk22 md ops = true) (hsl : slots22 c1 c2 d1 d2 = true) (hlisted : listed = L22 0 false false) (hw : Below W0.heap.size W0 w)
    (h1 : ∀ (T : List Value) (w : World) (K : Act → World → Prop), (∀ x, x ∉ [c1, c2, d1, d2] → T[x]? = l[x]?) → (∀ w', Below w.heap.size w w' → K { tmps := (T.set c1 V1).toArray, defers := ds } w') → wpOp P ops Q 1 K { tmps := T.toArray, defers := ds } w)
    (h2 : ∀ (T : List Value) (w : World) (K : Act → World → Prop), (∀ x, x ∉ [c1, c2, d1, d2] → T[x]? = l[x]?) → (∀ w', Below w.heap.size w w' → K { tmps := (T.set c2 V2).toArray, defers := ds } w') → wpOp P ops Q 3 K { tmps := T.toArray, defers := ds } w)
    (a1 : ∀ (T : List Value) (w : World) (K : Act → World → Prop), K { tmps := (T.set d1 (.pointer (some ⟨w.heap.size, 0, none⟩))).toArray, defers := ds } (w.alloc (.cells zc t (0, 0))) → wpOp P ops Q 4 K { tmps := T.toArray, defers := ds } w)
    (a2 : ∀ (T : List Value) (w : World) (K : Act → World → Prop), K { tmps := (T.set d2 (.pointer (some ⟨w.heap.size, 0, none⟩))).toArray, defers := ds } (w.alloc (.cells zc t (0, 0))) → wpOp P ops Q 5 K { tmps := T.toArray, defers := ds } w)
    (hend : ∀ (w : World) (b1 b2 : Nat), Below W0.heap.size W0 w → W0.heap.size ≤ b1 → W0.heap.size ≤ b2 → w.heap[b1]? = some (.cells zc t (0, 0)) → w.heap[b2]? = some (.cells zc t (0, 0)) → b1 ≠ b2 →
      wpAnyH P md ops Q (fun V => Below W0.heap.size W0 V) r (L22 2 true true) { tmps := ((((l.set c1 V1).set c2 V2).set d1 (.pointer (some ⟨b1, 0, none⟩))).set d2 (.pointer (some ⟨b2, 0, none⟩))).toArray, defers := ds } w) :
    wpAnyH P md ops Q (fun V => Below W0.heap.size W0 V) (r + 4) listed { tmps := l.toArray, defers := ds } w := by
  refine wpAnyH_stage (Φ := fun k listed a w => ∃ i p q, St22 zc t c1 c2 d1 d2 V1 V2 l ds W0 k listed a w i p q) ?_ ?_ 4 listed _ w ⟨0, none, none, ⟨by omega, by simp, by rw [hlisted]; rfl, rfl, hw, FreshZ.none, FreshZ.none, Apart.none1⟩⟩
  · rintro k listed a w ⟨i, p, q, I⟩
    obtain ⟨hi2, hk, hli, ha, hb, fp, fq, pq⟩ := I
    subst hli ha
    have hx : ¬ (i = 2 ∧ p.isSome = true ∧ q.isSome = true) := by
      rintro ⟨e1, e2, e3⟩
      simp only [e1, e2, e3, if_true] at hk
      omega
    obtain ⟨g1, g2⟩ := ready22 hchk hi2 p.isSome q.isSome hx
    refine ⟨g1, fun j hj => ?_⟩
    rcases g2 j hj with ⟨hi, rfl⟩ | ⟨rfl, hn⟩ | ⟨rfl, hn⟩
    · rcases (show i = 0 ∨ i = 1 by omega) with e | e
      · subst e
        refine h1 _ w _ (fun x hx => T22_get hx) (fun w' hb' => ⟨hb.trans (hb'.mono hb.size), 1, p, q, ⟨by omega, by omega, rfl, by rw [T22_call1 hsl], hb.trans (hb'.mono hb.size), fp.call hb', fq.call hb', pq⟩⟩)
      · subst e
        refine h2 _ w _ (fun x hx => T22_get hx) (fun w' hb' => ⟨hb.trans (hb'.mono hb.size), 2, p, q, ⟨by omega, by omega, rfl, by rw [T22_call2 hsl], hb.trans (hb'.mono hb.size), fp.call hb', fq.call hb', pq⟩⟩)
    · have e : p = none := by cases p with | none => rfl | some _ => cases hn
      subst e
      refine a1 _ w _ ⟨hb.alloc hb.size _, i, (some w.heap.size), q, ⟨hi2, by simp only [Option.isSome_none, Option.isSome_some, Bool.false_eq_true, if_false, if_true] at hk ⊢; omega, rfl, by rw [T22_p hsl _], hb.alloc hb.size _, FreshZ.new hb.size, fq.alloc _, fq.apart⟩⟩
    · have e : q = none := by cases q with | none => rfl | some _ => cases hn
      subst e
      refine a2 _ w _ ⟨hb.alloc hb.size _, i, p, (some w.heap.size), ⟨hi2, by simp only [Option.isSome_none, Option.isSome_some, Bool.false_eq_true, if_false, if_true] at hk ⊢; omega, rfl, by rw [T22_q _], hb.alloc hb.size _, fp.alloc _, FreshZ.new hb.size, fp.apart.symm⟩⟩
  · rintro listed a w ⟨i, p, q, I⟩
    obtain ⟨hi2, hk, hli, ha, hb, fp, fq, pq⟩ := I
    have hh : i = 2 ∧ p.isSome = true ∧ q.isSome = true := by
      cases p <;> cases q <;> simp at hk ⊢ <;> omega
    obtain ⟨e0, e1, e2⟩ := hh
    obtain ⟨b1, rfl⟩ := Option.isSome_iff_exists.1 e1
    obtain ⟨b2, rfl⟩ := Option.isSome_iff_exists.1 e2
    subst e0 hli ha
    exact hend w b1 b2 hb (fp b1 rfl).1 (fq b2 rfl).1 (fp b1 rfl).2 (fq b2 rfl).2 (pq _ _ rfl rfl)

end Go.Proofs.Ytpnijncoldihfaa
