/-
  Four calls beside four variables that are made, whichever comes first.
-/
import Derived.Test.YtpnijncoldihfaaKeep
namespace Go.Proofs.Ytpnijncoldihfaa
open Go.RowKit Go.Shelf

section
variable {P : Program} {md : Region.Mode} {ops : Array Oper} {Q : Exit → Act → World → Prop} {S : World → Prop}

/-- A stage of a region: what holds of its states leads through it. -/
theorem wpAnyH_stage {Φ : Nat → Array Bool → Act → World → Prop} {r : Nat}
    (hstep : ∀ k listed a w, Φ (k + 1) listed a w → Region.ready md ops listed ≠ [] ∧ ∀ i ∈ Region.ready md ops listed, wpOp P ops Q i (fun a' w' => S w' ∧ Φ k (listed.setIfInBounds i true) a' w') a w)
    (hend : ∀ listed a w, Φ 0 listed a w → wpAnyH P md ops Q S r listed a w) :
    ∀ k listed a w, Φ k listed a w → wpAnyH P md ops Q S (r + k) listed a w
  | 0, listed, a, w, h => hend listed a w h
  | k + 1, listed, a, w, h => by
    obtain ⟨h1, h2⟩ := hstep k listed a w h
    exact ⟨fun h0 => absurd h0 h1, fun i hi => wpOp_mono (fun a' w' h' => ⟨h'.1, wpAnyH_stage hstep hend k _ a' w' h'.2⟩) (h2 i hi)⟩
end

/-- A slot that is set, if the variable is made. -/
def setO (d : Nat) (p : Option Nat) (t : List Value) : List Value := match p with | none => t | some b => t.set d (.pointer (some ⟨b, 0, none⟩))
/-- A slot that is set, if the call is done. -/
def setC (c : Nat) (b : Bool) (v : Value) (t : List Value) : List Value := if b then t.set c v else t

theorem setO_set {d c : Nat} {p : Option Nat} {t : List Value} {v : Value} (h : d ≠ c) : (setO d p t).set c v = setO d p (t.set c v) := by
  cases p with
  | none => rfl
  | some b => exact List.set_comm _ _ h
theorem setC_set {d c : Nat} {b : Bool} {t : List Value} {u v : Value} (h : d ≠ c) : (setC d b u t).set c v = setC d b u (t.set c v) := by
  cases b with
  | false => rfl
  | true => exact List.set_comm _ _ h
theorem setO_get {d s : Nat} {p : Option Nat} {t : List Value} (h : d ≠ s) : (setO d p t)[s]? = t[s]? := by
  cases p with
  | none => rfl
  | some b => exact List.getElem?_set_ne h
theorem setC_get {d s : Nat} {b : Bool} {t : List Value} {u : Value} (h : d ≠ s) : (setC d b u t)[s]? = t[s]? := by
  cases b with
  | false => rfl
  | true => exact List.getElem?_set_ne h

/-- What is listed: the loads, so many calls, these variables. -/
def L44 (i : Nat) (p q r s : Bool) : Array Bool := #[true, true, decide (1 ≤ i), true, true, decide (2 ≤ i), true, true, decide (3 ≤ i), true, true, decide (4 ≤ i), p, q, r, s, false, false, false, false]

/-- Which operations may come up, state by state. -/
def chk44 (md : Region.Mode) (ops : Array Oper) : Bool :=
  [0, 1, 2, 3, 4].all fun i => [false, true].all fun p => [false, true].all fun q => [false, true].all fun r => [false, true].all fun s =>
    ((i == 4 && p && q && r && s) || !(Region.ready md ops (L44 i p q r s)).isEmpty) &&
    (Region.ready md ops (L44 i p q r s)).all fun j => (decide (i < 4) && j == 2 + 3 * i) || (j == 12 && !p) || (j == 13 && !q) || (j == 14 && !r) || (j == 15 && !s) || (i == 4 && p && q && r && s)

theorem ready44 {md : Region.Mode} {ops : Array Oper} (h : chk44 md ops = true) {i : Nat} (hi : i ≤ 4) (p q r s : Bool) (hx : ¬ (i = 4 ∧ p = true ∧ q = true ∧ r = true ∧ s = true)) :
    Region.ready md ops (L44 i p q r s) ≠ [] ∧ ∀ j ∈ Region.ready md ops (L44 i p q r s), (i < 4 ∧ j = 2 + 3 * i) ∨ (j = 12 ∧ p = false) ∨ (j = 13 ∧ q = false) ∨ (j = 14 ∧ r = false) ∨ (j = 15 ∧ s = false) := by
  have h1 : i ∈ [0, 1, 2, 3, 4] := by
    rcases (show i = 0 ∨ i = 1 ∨ i = 2 ∨ i = 3 ∨ i = 4 by omega) with h | h | h | h | h <;> simp [h]
  have hb : ∀ b : Bool, b ∈ [false, true] := fun b => by cases b <;> simp
  have h2 := List.all_eq_true.1 (List.all_eq_true.1 (List.all_eq_true.1 (List.all_eq_true.1 (List.all_eq_true.1 h i h1) p (hb p)) q (hb q)) r (hb r)) s (hb s)
  simp only [Bool.and_eq_true, Bool.or_eq_true, List.all_eq_true] at h2
  obtain ⟨h3, h4⟩ := h2
  refine ⟨?_, fun j hj => ?_⟩
  · rcases h3 with h3 | h3
    · exfalso
      apply hx
      simpa [and_assoc] using h3
    · intro h0
      rw [h0] at h3
      simp at h3
  · have h5 := h4 j hj
    simp only [decide_eq_true_eq, beq_iff_eq, Bool.not_eq_true'] at h5
    rcases h5 with ((((h5 | h5) | h5) | h5) | h5) | h5
    · exact Or.inl h5
    · exact Or.inr (Or.inl h5)
    · exact Or.inr (Or.inr (Or.inl h5))
    · exact Or.inr (Or.inr (Or.inr (Or.inl h5)))
    · exact Or.inr (Or.inr (Or.inr (Or.inr h5)))
    · exfalso
      apply hx
      obtain ⟨⟨⟨⟨a, b⟩, c⟩, d⟩, e⟩ := h5
      exact ⟨a, b, c, d, e⟩

/-- A new variable of four limbs. -/
def Fresh (N : Nat) (w : World) (p : Option Nat) : Prop := ∀ b, p = some b → N ≤ b ∧ w.heap[b]? = some (.cells #[.int .u64 0, .int .u64 0, .int .u64 0, .int .u64 0] 24 (0, 0))
/-- Two variables are apart. -/
def Apart (p q : Option Nat) : Prop := ∀ b c, p = some b → q = some c → b ≠ c

theorem Fresh.none {N : Nat} {w : World} : Fresh N w none := fun _ h => by cases h
theorem Fresh.call {N : Nat} {w w' : World} {p : Option Nat} (h : Fresh N w p) (hb : Below w.heap.size w w') : Fresh N w' p := fun b e => by
  obtain ⟨h1, h2⟩ := h b e
  exact ⟨h1, (hb.block b (lt_of_block h2)).trans h2⟩
theorem Fresh.alloc {N : Nat} {w : World} {p : Option Nat} (h : Fresh N w p) (o : Obj) : Fresh N (w.alloc o) p := fun b e => by
  obtain ⟨h1, h2⟩ := h b e
  exact ⟨h1, (heap_old _ _ (lt_of_block h2)).trans h2⟩
theorem Fresh.new {N : Nat} {w : World} (hN : N ≤ w.heap.size) : Fresh N (w.alloc (.cells #[.int .u64 0, .int .u64 0, .int .u64 0, .int .u64 0] 24)) (some w.heap.size) := fun b e => by
  cases e
  exact ⟨hN, heap_new _ _⟩
theorem Apart.new {N : Nat} {w : World} {p : Option Nat} (h : Fresh N w p) : Apart (some w.heap.size) p := fun b c e1 e2 => by
  cases e1
  have := lt_of_block (h c e2).2
  omega
theorem Apart.symm {p q : Option Nat} (h : Apart p q) : Apart q p := fun b c e1 e2 => (h c b e2 e1).symm
theorem Apart.none1 {q : Option Nat} : Apart none q := fun _ _ h => by cases h

/-- The slots of a state. -/
def T44 (c1 c2 c3 c4 d1 d2 d3 d4 : Nat) (V1 V2 V3 V4 : Value) (l : List Value) (i : Nat) (p q r s : Option Nat) : List Value :=
  setO d4 s (setO d3 r (setO d2 q (setO d1 p (setC c4 (decide (4 ≤ i)) V4 (setC c3 (decide (3 ≤ i)) V3 (setC c2 (decide (2 ≤ i)) V2 (setC c1 (decide (1 ≤ i)) V1 l)))))))

/-- A state. -/
structure St44 (c1 c2 c3 c4 d1 d2 d3 d4 : Nat) (V1 V2 V3 V4 : Value) (l : List Value) (ds : List Deferred) (W0 : World) (k : Nat) (listed : Array Bool) (a : Act) (w : World) (i : Nat) (p q r s : Option Nat) : Prop where
  i4 : i ≤ 4
  k : k + i + (if p.isSome then 1 else 0) + (if q.isSome then 1 else 0) + (if r.isSome then 1 else 0) + (if s.isSome then 1 else 0) = 8
  listed : listed = L44 i p.isSome q.isSome r.isSome s.isSome
  a : a = { tmps := (T44 c1 c2 c3 c4 d1 d2 d3 d4 V1 V2 V3 V4 l i p q r s).toArray, defers := ds }
  b : Below W0.heap.size W0 w
  fp : Fresh W0.heap.size w p
  fq : Fresh W0.heap.size w q
  fr : Fresh W0.heap.size w r
  fs : Fresh W0.heap.size w s
  pq : Apart p q
  pr : Apart p r
  ps : Apart p s
  qr : Apart q r
  qs : Apart q s
  rs : Apart r s

section
variable {c1 c2 c3 c4 d1 d2 d3 d4 : Nat} {V1 V2 V3 V4 : Value} {l : List Value} {ds : List Deferred} {W0 w w' : World} {k : Nat} {listed : Array Bool} {a : Act} {i : Nat} {p q r s : Option Nat}

/-- No two slots are one. -/
def slots44 (c1 c2 c3 c4 d1 d2 d3 d4 : Nat) : Bool := decide (List.Nodup [c1, c2, c3, c4, d1, d2, d3, d4])

theorem T44_get {x : Nat} (h : x ∉ [c1, c2, c3, c4, d1, d2, d3, d4]) : (T44 c1 c2 c3 c4 d1 d2 d3 d4 V1 V2 V3 V4 l i p q r s)[x]? = l[x]? := by
  simp only [List.mem_cons, List.not_mem_nil, or_false, not_or] at h
  obtain ⟨h1, h2, h3, h4, h5, h6, h7, h8⟩ := h
  unfold T44
  rw [setO_get (Ne.symm h8), setO_get (Ne.symm h7), setO_get (Ne.symm h6), setO_get (Ne.symm h5), setC_get (Ne.symm h4), setC_get (Ne.symm h3), setC_get (Ne.symm h2), setC_get (Ne.symm h1)]

theorem T44_call1 (hs : slots44 c1 c2 c3 c4 d1 d2 d3 d4 = true) : (T44 c1 c2 c3 c4 d1 d2 d3 d4 V1 V2 V3 V4 l 0 p q r s).set c1 V1 = T44 c1 c2 c3 c4 d1 d2 d3 d4 V1 V2 V3 V4 l 1 p q r s := by
  unfold slots44 at hs
  have h := of_decide_eq_true hs
  simp only [List.nodup_cons, List.mem_cons, List.not_mem_nil, or_false, not_or] at h
  obtain ⟨⟨n12, n13, n14, m11, m12, m13, m14⟩, ⟨n23, n24, m21, m22, m23, m24⟩, ⟨n34, m31, m32, m33, m34⟩, ⟨m41, m42, m43, m44⟩, ⟨o12, o13, o14⟩, ⟨o23, o24⟩, o34, _⟩ := h
  unfold T44
  rw [setO_set (Ne.symm m14), setO_set (Ne.symm m13), setO_set (Ne.symm m12), setO_set (Ne.symm m11)]
  simp [setC]
theorem T44_call2 (hs : slots44 c1 c2 c3 c4 d1 d2 d3 d4 = true) : (T44 c1 c2 c3 c4 d1 d2 d3 d4 V1 V2 V3 V4 l 1 p q r s).set c2 V2 = T44 c1 c2 c3 c4 d1 d2 d3 d4 V1 V2 V3 V4 l 2 p q r s := by
  unfold slots44 at hs
  have h := of_decide_eq_true hs
  simp only [List.nodup_cons, List.mem_cons, List.not_mem_nil, or_false, not_or] at h
  obtain ⟨⟨n12, n13, n14, m11, m12, m13, m14⟩, ⟨n23, n24, m21, m22, m23, m24⟩, ⟨n34, m31, m32, m33, m34⟩, ⟨m41, m42, m43, m44⟩, ⟨o12, o13, o14⟩, ⟨o23, o24⟩, o34, _⟩ := h
  unfold T44
  rw [setO_set (Ne.symm m24), setO_set (Ne.symm m23), setO_set (Ne.symm m22), setO_set (Ne.symm m21)]
  simp [setC]
theorem T44_call3 (hs : slots44 c1 c2 c3 c4 d1 d2 d3 d4 = true) : (T44 c1 c2 c3 c4 d1 d2 d3 d4 V1 V2 V3 V4 l 2 p q r s).set c3 V3 = T44 c1 c2 c3 c4 d1 d2 d3 d4 V1 V2 V3 V4 l 3 p q r s := by
  unfold slots44 at hs
  have h := of_decide_eq_true hs
  simp only [List.nodup_cons, List.mem_cons, List.not_mem_nil, or_false, not_or] at h
  obtain ⟨⟨n12, n13, n14, m11, m12, m13, m14⟩, ⟨n23, n24, m21, m22, m23, m24⟩, ⟨n34, m31, m32, m33, m34⟩, ⟨m41, m42, m43, m44⟩, ⟨o12, o13, o14⟩, ⟨o23, o24⟩, o34, _⟩ := h
  unfold T44
  rw [setO_set (Ne.symm m34), setO_set (Ne.symm m33), setO_set (Ne.symm m32), setO_set (Ne.symm m31)]
  simp [setC]
theorem T44_call4 (hs : slots44 c1 c2 c3 c4 d1 d2 d3 d4 = true) : (T44 c1 c2 c3 c4 d1 d2 d3 d4 V1 V2 V3 V4 l 3 p q r s).set c4 V4 = T44 c1 c2 c3 c4 d1 d2 d3 d4 V1 V2 V3 V4 l 4 p q r s := by
  unfold slots44 at hs
  have h := of_decide_eq_true hs
  simp only [List.nodup_cons, List.mem_cons, List.not_mem_nil, or_false, not_or] at h
  obtain ⟨⟨n12, n13, n14, m11, m12, m13, m14⟩, ⟨n23, n24, m21, m22, m23, m24⟩, ⟨n34, m31, m32, m33, m34⟩, ⟨m41, m42, m43, m44⟩, ⟨o12, o13, o14⟩, ⟨o23, o24⟩, o34, _⟩ := h
  unfold T44
  rw [setO_set (Ne.symm m44), setO_set (Ne.symm m43), setO_set (Ne.symm m42), setO_set (Ne.symm m41)]
  simp [setC]
theorem T44_p (hs : slots44 c1 c2 c3 c4 d1 d2 d3 d4 = true) (b : Nat) : (T44 c1 c2 c3 c4 d1 d2 d3 d4 V1 V2 V3 V4 l i none q r s).set d1 (.pointer (some ⟨b, 0, none⟩)) = T44 c1 c2 c3 c4 d1 d2 d3 d4 V1 V2 V3 V4 l i (some b) q r s := by
  unfold slots44 at hs
  have h := of_decide_eq_true hs
  simp only [List.nodup_cons, List.mem_cons, List.not_mem_nil, or_false, not_or] at h
  obtain ⟨⟨n12, n13, n14, m11, m12, m13, m14⟩, ⟨n23, n24, m21, m22, m23, m24⟩, ⟨n34, m31, m32, m33, m34⟩, ⟨m41, m42, m43, m44⟩, ⟨o12, o13, o14⟩, ⟨o23, o24⟩, o34, _⟩ := h
  unfold T44
  rw [setO_set (Ne.symm o14), setO_set (Ne.symm o13), setO_set (Ne.symm o12)]
  rfl
theorem T44_q (hs : slots44 c1 c2 c3 c4 d1 d2 d3 d4 = true) (b : Nat) : (T44 c1 c2 c3 c4 d1 d2 d3 d4 V1 V2 V3 V4 l i p none r s).set d2 (.pointer (some ⟨b, 0, none⟩)) = T44 c1 c2 c3 c4 d1 d2 d3 d4 V1 V2 V3 V4 l i p (some b) r s := by
  unfold slots44 at hs
  have h := of_decide_eq_true hs
  simp only [List.nodup_cons, List.mem_cons, List.not_mem_nil, or_false, not_or] at h
  obtain ⟨⟨n12, n13, n14, m11, m12, m13, m14⟩, ⟨n23, n24, m21, m22, m23, m24⟩, ⟨n34, m31, m32, m33, m34⟩, ⟨m41, m42, m43, m44⟩, ⟨o12, o13, o14⟩, ⟨o23, o24⟩, o34, _⟩ := h
  unfold T44
  rw [setO_set (Ne.symm o24), setO_set (Ne.symm o23)]
  rfl
theorem T44_r (hs : slots44 c1 c2 c3 c4 d1 d2 d3 d4 = true) (b : Nat) : (T44 c1 c2 c3 c4 d1 d2 d3 d4 V1 V2 V3 V4 l i p q none s).set d3 (.pointer (some ⟨b, 0, none⟩)) = T44 c1 c2 c3 c4 d1 d2 d3 d4 V1 V2 V3 V4 l i p q (some b) s := by
  unfold slots44 at hs
  have h := of_decide_eq_true hs
  simp only [List.nodup_cons, List.mem_cons, List.not_mem_nil, or_false, not_or] at h
  obtain ⟨⟨n12, n13, n14, m11, m12, m13, m14⟩, ⟨n23, n24, m21, m22, m23, m24⟩, ⟨n34, m31, m32, m33, m34⟩, ⟨m41, m42, m43, m44⟩, ⟨o12, o13, o14⟩, ⟨o23, o24⟩, o34, _⟩ := h
  unfold T44
  rw [setO_set (Ne.symm o34)]
  rfl
theorem T44_s (b : Nat) : (T44 c1 c2 c3 c4 d1 d2 d3 d4 V1 V2 V3 V4 l i p q r none).set d4 (.pointer (some ⟨b, 0, none⟩)) = T44 c1 c2 c3 c4 d1 d2 d3 d4 V1 V2 V3 V4 l i p q r (some b) := by
  rfl
end

/-- Four calls in a row beside four variables that are made: in whatever order, all are done in the end. -/
theorem region44 {P : Program} {md : Region.Mode} {ops : Array Oper} {Q : Exit → Act → World → Prop} {W0 w : World} {l : List Value} {ds : List Deferred} {r : Nat} {listed : Array Bool} (c1 c2 c3 c4 d1 d2 d3 d4 : Nat) (V1 V2 V3 V4 : Value)
    (hchk : chk44 md ops = true) (hsl : slots44 c1 c2 c3 c4 d1 d2 d3 d4 = true) (hlisted : listed = L44 0 false false false false) (hw : Below W0.heap.size W0 w)
    (h1 : ∀ (T : List Value) (w : World) (K : Act → World → Prop), (∀ x, x ∉ [c1, c2, c3, c4, d1, d2, d3, d4] → T[x]? = l[x]?) → (∀ w', Below w.heap.size w w' → K { tmps := (T.set c1 V1).toArray, defers := ds } w') → wpOp P ops Q 2 K { tmps := T.toArray, defers := ds } w)
    (h2 : ∀ (T : List Value) (w : World) (K : Act → World → Prop), (∀ x, x ∉ [c1, c2, c3, c4, d1, d2, d3, d4] → T[x]? = l[x]?) → (∀ w', Below w.heap.size w w' → K { tmps := (T.set c2 V2).toArray, defers := ds } w') → wpOp P ops Q 5 K { tmps := T.toArray, defers := ds } w)
    (h3 : ∀ (T : List Value) (w : World) (K : Act → World → Prop), (∀ x, x ∉ [c1, c2, c3, c4, d1, d2, d3, d4] → T[x]? = l[x]?) → (∀ w', Below w.heap.size w w' → K { tmps := (T.set c3 V3).toArray, defers := ds } w') → wpOp P ops Q 8 K { tmps := T.toArray, defers := ds } w)
    (h4 : ∀ (T : List Value) (w : World) (K : Act → World → Prop), (∀ x, x ∉ [c1, c2, c3, c4, d1, d2, d3, d4] → T[x]? = l[x]?) → (∀ w', Below w.heap.size w w' → K { tmps := (T.set c4 V4).toArray, defers := ds } w') → wpOp P ops Q 11 K { tmps := T.toArray, defers := ds } w)
    (a12 : ∀ (T : List Value) (w : World) (K : Act → World → Prop), K { tmps := (T.set d1 (.pointer (some ⟨w.heap.size, 0, none⟩))).toArray, defers := ds } (w.alloc (.cells #[.int .u64 0, .int .u64 0, .int .u64 0, .int .u64 0] 24)) → wpOp P ops Q 12 K { tmps := T.toArray, defers := ds } w)
    (a13 : ∀ (T : List Value) (w : World) (K : Act → World → Prop), K { tmps := (T.set d2 (.pointer (some ⟨w.heap.size, 0, none⟩))).toArray, defers := ds } (w.alloc (.cells #[.int .u64 0, .int .u64 0, .int .u64 0, .int .u64 0] 24)) → wpOp P ops Q 13 K { tmps := T.toArray, defers := ds } w)
    (a14 : ∀ (T : List Value) (w : World) (K : Act → World → Prop), K { tmps := (T.set d3 (.pointer (some ⟨w.heap.size, 0, none⟩))).toArray, defers := ds } (w.alloc (.cells #[.int .u64 0, .int .u64 0, .int .u64 0, .int .u64 0] 24)) → wpOp P ops Q 14 K { tmps := T.toArray, defers := ds } w)
    (a15 : ∀ (T : List Value) (w : World) (K : Act → World → Prop), K { tmps := (T.set d4 (.pointer (some ⟨w.heap.size, 0, none⟩))).toArray, defers := ds } (w.alloc (.cells #[.int .u64 0, .int .u64 0, .int .u64 0, .int .u64 0] 24)) → wpOp P ops Q 15 K { tmps := T.toArray, defers := ds } w)
    (hend : ∀ (w : World) (b1 b2 b3 b4 : Nat), Below W0.heap.size W0 w → W0.heap.size ≤ b1 → W0.heap.size ≤ b2 → W0.heap.size ≤ b3 → W0.heap.size ≤ b4 → w.heap[b1]? = some (.cells #[.int .u64 0, .int .u64 0, .int .u64 0, .int .u64 0] 24 (0, 0)) → w.heap[b2]? = some (.cells #[.int .u64 0, .int .u64 0, .int .u64 0, .int .u64 0] 24 (0, 0)) → w.heap[b3]? = some (.cells #[.int .u64 0, .int .u64 0, .int .u64 0, .int .u64 0] 24 (0, 0)) → w.heap[b4]? = some (.cells #[.int .u64 0, .int .u64 0, .int .u64 0, .int .u64 0] 24 (0, 0)) →
      b1 ≠ b2 → b1 ≠ b3 → b1 ≠ b4 → b2 ≠ b3 → b2 ≠ b4 → b3 ≠ b4 →
      wpAnyH P md ops Q (fun V => Below W0.heap.size W0 V) r (L44 4 true true true true) { tmps := ((((((((l.set c1 V1).set c2 V2).set c3 V3).set c4 V4).set d1 (.pointer (some ⟨b1, 0, none⟩))).set d2 (.pointer (some ⟨b2, 0, none⟩))).set d3 (.pointer (some ⟨b3, 0, none⟩))).set d4 (.pointer (some ⟨b4, 0, none⟩))).toArray, defers := ds } w) :
    wpAnyH P md ops Q (fun V => Below W0.heap.size W0 V) (r + 8) listed { tmps := l.toArray, defers := ds } w := by
  refine wpAnyH_stage (Φ := fun k listed a w => ∃ i p q r s, St44 c1 c2 c3 c4 d1 d2 d3 d4 V1 V2 V3 V4 l ds W0 k listed a w i p q r s) ?_ ?_ 8 listed _ w ⟨0, none, none, none, none, ⟨by omega, by simp, by rw [hlisted]; rfl, rfl, hw, Fresh.none, Fresh.none, Fresh.none, Fresh.none, Apart.none1, Apart.none1, Apart.none1, Apart.none1, Apart.none1, Apart.none1⟩⟩
  · rintro k listed a w ⟨i, p, q, r, s, I⟩
    obtain ⟨hi4, hk, hli, ha, hb, fp, fq, fr, fs, pq, pr, ps, qr, qs, rs⟩ := I
    subst hli ha
    have hx : ¬ (i = 4 ∧ p.isSome = true ∧ q.isSome = true ∧ r.isSome = true ∧ s.isSome = true) := by
      rintro ⟨e1, e2, e3, e4, e5⟩
      simp only [e1, e2, e3, e4, e5, if_true] at hk
      omega
    obtain ⟨g1, g2⟩ := ready44 hchk hi4 p.isSome q.isSome r.isSome s.isSome hx
    refine ⟨g1, fun j hj => ?_⟩
    rcases g2 j hj with ⟨hi, rfl⟩ | ⟨rfl, hn⟩ | ⟨rfl, hn⟩ | ⟨rfl, hn⟩ | ⟨rfl, hn⟩
    · rcases (show i = 0 ∨ i = 1 ∨ i = 2 ∨ i = 3 by omega) with e | e | e | e
      · subst e
        refine h1 _ w _ (fun x hx => T44_get hx) (fun w' hb' => ⟨hb.trans (hb'.mono hb.size), 1, p, q, r, s, ⟨by omega, by omega, rfl, by rw [T44_call1 hsl], hb.trans (hb'.mono hb.size), fp.call hb', fq.call hb', fr.call hb', fs.call hb', pq, pr, ps, qr, qs, rs⟩⟩)
      · subst e
        refine h2 _ w _ (fun x hx => T44_get hx) (fun w' hb' => ⟨hb.trans (hb'.mono hb.size), 2, p, q, r, s, ⟨by omega, by omega, rfl, by rw [T44_call2 hsl], hb.trans (hb'.mono hb.size), fp.call hb', fq.call hb', fr.call hb', fs.call hb', pq, pr, ps, qr, qs, rs⟩⟩)
      · subst e
        refine h3 _ w _ (fun x hx => T44_get hx) (fun w' hb' => ⟨hb.trans (hb'.mono hb.size), 3, p, q, r, s, ⟨by omega, by omega, rfl, by rw [T44_call3 hsl], hb.trans (hb'.mono hb.size), fp.call hb', fq.call hb', fr.call hb', fs.call hb', pq, pr, ps, qr, qs, rs⟩⟩)
      · subst e
        refine h4 _ w _ (fun x hx => T44_get hx) (fun w' hb' => ⟨hb.trans (hb'.mono hb.size), 4, p, q, r, s, ⟨by omega, by omega, rfl, by rw [T44_call4 hsl], hb.trans (hb'.mono hb.size), fp.call hb', fq.call hb', fr.call hb', fs.call hb', pq, pr, ps, qr, qs, rs⟩⟩)
    · have e : p = none := by cases p with | none => rfl | some _ => cases hn
      subst e
      refine a12 _ w _ ⟨hb.alloc hb.size _, i, (some w.heap.size), q, r, s, ⟨hi4, by simp only [Option.isSome_none, Option.isSome_some, Bool.false_eq_true, if_false, if_true] at hk ⊢; omega, rfl, by rw [T44_p hsl _], hb.alloc hb.size _, Fresh.new hb.size, fq.alloc _, fr.alloc _, fs.alloc _, Apart.new fq, Apart.new fr, Apart.new fs, qr, qs, rs⟩⟩
    · have e : q = none := by cases q with | none => rfl | some _ => cases hn
      subst e
      refine a13 _ w _ ⟨hb.alloc hb.size _, i, p, (some w.heap.size), r, s, ⟨hi4, by simp only [Option.isSome_none, Option.isSome_some, Bool.false_eq_true, if_false, if_true] at hk ⊢; omega, rfl, by rw [T44_q hsl _], hb.alloc hb.size _, fp.alloc _, Fresh.new hb.size, fr.alloc _, fs.alloc _, (Apart.new fp).symm, pr, ps, Apart.new fr, Apart.new fs, rs⟩⟩
    · have e : r = none := by cases r with | none => rfl | some _ => cases hn
      subst e
      refine a14 _ w _ ⟨hb.alloc hb.size _, i, p, q, (some w.heap.size), s, ⟨hi4, by simp only [Option.isSome_none, Option.isSome_some, Bool.false_eq_true, if_false, if_true] at hk ⊢; omega, rfl, by rw [T44_r hsl _], hb.alloc hb.size _, fp.alloc _, fq.alloc _, Fresh.new hb.size, fs.alloc _, pq, (Apart.new fp).symm, ps, (Apart.new fq).symm, qs, Apart.new fs⟩⟩
    · have e : s = none := by cases s with | none => rfl | some _ => cases hn
      subst e
      refine a15 _ w _ ⟨hb.alloc hb.size _, i, p, q, r, (some w.heap.size), ⟨hi4, by simp only [Option.isSome_none, Option.isSome_some, Bool.false_eq_true, if_false, if_true] at hk ⊢; omega, rfl, by rw [T44_s _], hb.alloc hb.size _, fp.alloc _, fq.alloc _, fr.alloc _, Fresh.new hb.size, pq, pr, (Apart.new fp).symm, qr, (Apart.new fq).symm, (Apart.new fr).symm⟩⟩
  · rintro listed a w ⟨i, p, q, r, s, I⟩
    obtain ⟨hi4, hk, hli, ha, hb, fp, fq, fr, fs, pq, pr, ps, qr, qs, rs⟩ := I
    have hh : i = 4 ∧ p.isSome = true ∧ q.isSome = true ∧ r.isSome = true ∧ s.isSome = true := by
      cases p <;> cases q <;> cases r <;> cases s <;> simp at hk ⊢ <;> omega
    obtain ⟨e0, e1, e2, e3, e4⟩ := hh
    obtain ⟨b1, rfl⟩ := Option.isSome_iff_exists.1 e1
    obtain ⟨b2, rfl⟩ := Option.isSome_iff_exists.1 e2
    obtain ⟨b3, rfl⟩ := Option.isSome_iff_exists.1 e3
    obtain ⟨b4, rfl⟩ := Option.isSome_iff_exists.1 e4
    subst e0 hli ha
    exact hend w b1 b2 b3 b4 hb (fp b1 rfl).1 (fq b2 rfl).1 (fr b3 rfl).1 (fs b4 rfl).1 (fp b1 rfl).2 (fq b2 rfl).2 (fr b3 rfl).2 (fs b4 rfl).2 (pq _ _ rfl rfl) (pr _ _ rfl rfl) (ps _ _ rfl rfl) (qr _ _ rfl rfl) (qs _ _ rfl rfl) (rs _ _ rfl rfl)

end Go.Proofs.Ytpnijncoldihfaa
