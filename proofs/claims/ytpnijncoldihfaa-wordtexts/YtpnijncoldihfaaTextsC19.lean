/-
  Two calls beside two variables that are made, whichever comes first; the variables are of any cells.
-/
import Derived.Test.YtpnijncoldihfaaTextsC18
import Derived.Test.YtpnijncoldihfaaTextsC15
namespace Go.Proofs.Ytpnijncoldihfaa
open Go.RowKit Go.Shelf

set_option maxHeartbeats 2000000 in
set_option maxRecDepth 100000 in
theorem fromWord_any (X : Nat) (w : World) : Calls Try.prog 87 #[wv X] w fun e w' => e = .returned (lv (X % M256)) ∧ Below w.heap.size w w' := by
  obtain ⟨x0, x1, x2, x3, h0, h1, h2, h3, eX, hX⟩ := wv_limbs X
  have HR := hideP (lv_word h0 h1 h2 h3 eX)
  rw [hX]
  have m : ∀ x : Nat, (x : Int) % 4294967296 = ((x % 4294967296 : Nat) : Int) := fun x => by omega
  have d : ∀ x : Nat, (x : Int) / 4294967296 = ((x / 4294967296 : Nat) : Int) := fun x => by omega
  have a0 := m x0
  have a1 := m x1
  have a2 := m x2
  have a3 := m x3
  have u : ∀ x : Nat, x < 18446744073709551616 → IntKind.u64.wrap ((x / 4294967296 : Nat) : Int) = ((x / 4294967296 : Nat) : Int) := fun x hx => M64.wrapN _ (by omega)
  have u0 := u x0 h0
  have u1 := u x1 h1
  have u2 := u x2 h2
  have u3 := u x3 h3
  have b0 := d x0
  have b1 := d x1
  have b2 := d x2
  have b3 := d x3
  clear m d u eX hX h0 h1 h2 h3
  generalize x0 % 4294967296 = p0 at *
  generalize x1 % 4294967296 = p1 at *
  generalize x2 % 4294967296 = p2 at *
  generalize x3 % 4294967296 = p3 at *
  generalize x0 / 4294967296 = q0 at *
  generalize x1 / 4294967296 = q1 at *
  generalize x2 / 4294967296 = q2 at *
  generalize x3 / 4294967296 = q3 at *
  go_enter Try.func87, Try.ntmps87
  go_wp2_with fail
  rename_i Q' K hK
  have HK := hideP hK
  clear hK
  refine wp_loop_rounds 5 ?_
  rw [rounds_succ]
  go_wp2_with fail
  rw [rounds_succ]
  go_wp2_with fail
  rw [rounds_succ]
  go_wp2_with fail
  rw [rounds_succ]
  go_wp2_with fail
  rw [rounds_succ]
  go_wp2_with fail
  refine HK.out _ _ ?_
  refine end17 (g := dg (X % M256)) (g' := fun _ => 0) (L := w.heap.size + 1 + 1) (R0 := w.heap.size + 1) (t := 76) rfl rfl rfl (by decide) (by show 24 < 25; decide) rfl (range17 (t := 76) ?_) ?_ ?_
  · rw [← show _ = c17 (dg (X % M256)) from Value.agg.inj HR.out]
    simp only [World.alloc, Array.getElem?_push, Array.size_push]
    simp
  · rw [← zero17]
    simp only [World.alloc, Array.getElem?_push, Array.size_push]
    simp
  intro wS g1 g2
  refine ⟨rfl, Below.trans ?_ (g2.below.mono (by omega))⟩
  repeat first | exact Below.refl _ _ | apply Below.drew | (refine Below.alloc ?_ (by simp <;> omega) _) | (refine Below.setCell ?_ (by simp <;> omega) _)

end Go.Proofs.Ytpnijncoldihfaa

namespace Go.Proofs.Ytpnijncoldihfaa
open Go.RowKit Go.Shelf

/-- All that lay in W0 is as it was but for the box R. -/
structure KeepR (W0 : World) (R : Nat) (V : World) : Prop where
  same : ∀ b, b < W0.heap.size → b ≠ R → V.heap[b]? = W0.heap[b]?
  below : Below R W0 V
  res : ∃ z0 z1 z2 z3, V.heap[R]? = some (.cells #[z0, z1, z2, z3] 24 (0, 0))

section
variable {W0 V V' : World} {R : Nat}
theorem KeepR.init {z0 z1 z2 z3 : Value} (h : W0.heap[R]? = some (.cells #[z0, z1, z2, z3] 24 (0, 0))) : KeepR W0 R W0.drew :=
  ⟨fun _ _ _ => rfl, (Below.refl _ _).drew, z0, z1, z2, z3, h⟩

theorem lt_of_block {W : World} {b : Nat} {o : Obj} (h : W.heap[b]? = some o) : b < W.heap.size := (Array.getElem?_eq_some_iff.1 h).1

theorem KeepR.call (h : KeepR W0 R V) (hb : Below V.heap.size V V') : KeepR W0 R V' := by
  obtain ⟨z0, z1, z2, z3, hz⟩ := h.res
  have hs : W0.heap.size ≤ V.heap.size := h.below.size
  exact ⟨fun b h1 h2 => (hb.block b (by omega)).trans (h.same b h1 h2), h.below.trans (hb.mono (Nat.le_of_lt (lt_of_block hz))), z0, z1, z2, z3, (hb.block R (lt_of_block hz)).trans hz⟩

theorem KeepR.store (h : KeepR W0 R V) (z0 z1 z2 z3 : Value) : KeepR W0 R ((((V.setCell ⟨R, 0, none⟩ z0).setCell ⟨R, 1, none⟩ z1).setCell ⟨R, 2, none⟩ z2).setCell ⟨R, 3, none⟩ z3) := by
  obtain ⟨y0, y1, y2, y3, hz⟩ := h.res
  exact ⟨fun b h1 h2 => (other4 h2).trans (h.same b h1 h2), below_stored4 h.below (Nat.le_refl _), z0, z1, z2, z3, stored4 hz⟩

theorem KeepR.cells (h : KeepR W0 R V) {b t : Nat} {u0 u1 u2 u3 : Value} (hb : W0.heap[b]? = some (.cells #[u0, u1, u2, u3] t (0, 0))) (hne : b ≠ R) :
    V.cell? ⟨b, 0, none⟩ = some u0 ∧ V.cell? ⟨b, 1, none⟩ = some u1 ∧ V.cell? ⟨b, 2, none⟩ = some u2 ∧ V.cell? ⟨b, 3, none⟩ = some u3 :=
  cells4 ((h.same b (lt_of_block hb) hne).trans hb)

theorem KeepR.room (h : KeepR W0 R V) : ∃ z0 z1 z2 z3, V.cell? ⟨R, 0, none⟩ = some z0 ∧ V.cell? ⟨R, 1, none⟩ = some z1 ∧ V.cell? ⟨R, 2, none⟩ = some z2 ∧ V.cell? ⟨R, 3, none⟩ = some z3 ∧ ∀ o, V.frozen? ⟨R, o, none⟩ = false := by
  obtain ⟨z0, z1, z2, z3, hz⟩ := h.res
  obtain ⟨a, b, c, d⟩ := cells4 hz
  exact ⟨z0, z1, z2, z3, a, b, c, d, fun o => blk_free hz⟩

end

end Go.Proofs.Ytpnijncoldihfaa

namespace Go.Proofs.Ytpnijncoldihfaa
open Go.RowKit Go.Shelf

section
variable {P : Program} {md : Region.Mode} {ops : Array Oper} {Q : Exit → Act → World → Prop} {S : World → Prop}

/-- A stage of a region: what holds of its states leads through it. -/
theorem wpAnyH_stage {Φ : Nat → Array Bool → Act → World → Prop} {r : Nat}
    (hstep : ∀ k listed a w, Φ (k + 1) listed a w → Region.ready md ops listed ≠ [] ∧ ∀ i ∈ Region.ready md ops listed, wpOp P ops Q i (fun a' w' => S w' ∧ Φ k (listed.setIfInBounds i true) a' w') a w)
    (hend : ∀ listed a w, Φ 0 listed a w → wpAnyH P md ops Q S r listed a w) :
    ∀ k listed a w, Φ k listed a w → wpAnyH P md ops Q S (r + k) listed a w
  | 0, listed, a, w, h => hend listed a w h
  | k + 1, listed, a, w, h => by
    obtain ⟨h1, h2⟩ := hstep k listed a w h
    exact ⟨fun h0 => absurd h0 h1, fun i hi => wpOp_mono (fun a' w' h' => ⟨h'.1, wpAnyH_stage hstep hend k _ a' w' h'.2⟩) (h2 i hi)⟩

end

/-- A slot that is set, if the variable is made. -/
def setO (d : Nat) (p : Option Nat) (t : List Value) : List Value := match p with | none => t | some b => t.set d (.pointer (some ⟨b, 0, none⟩))

/-- A slot that is set, if the call is done. -/
def setC (c : Nat) (b : Bool) (v : Value) (t : List Value) : List Value := if b then t.set c v else t

theorem setO_set {d c : Nat} {p : Option Nat} {t : List Value} {v : Value} (h : d ≠ c) : (setO d p t).set c v = setO d p (t.set c v) := by
  cases p with
  | none => rfl
  | some b => exact List.set_comm _ _ h

theorem setO_get {d s : Nat} {p : Option Nat} {t : List Value} (h : d ≠ s) : (setO d p t)[s]? = t[s]? := by
  cases p with
  | none => rfl
  | some b => exact List.getElem?_set_ne h

theorem setC_get {d s : Nat} {b : Bool} {t : List Value} {u : Value} (h : d ≠ s) : (setC d b u t)[s]? = t[s]? := by
  cases b with
  | false => rfl
  | true => exact List.getElem?_set_ne h

/-- A new variable of four limbs. -/
def Fresh (N : Nat) (w : World) (p : Option Nat) : Prop := ∀ b, p = some b → N ≤ b ∧ w.heap[b]? = some (.cells #[.int .u64 0, .int .u64 0, .int .u64 0, .int .u64 0] 24 (0, 0))

/-- Two variables are apart. -/
def Apart (p q : Option Nat) : Prop := ∀ b c, p = some b → q = some c → b ≠ c

theorem Fresh.none {N : Nat} {w : World} : Fresh N w none := fun _ h => by cases h

theorem Fresh.call {N : Nat} {w w' : World} {p : Option Nat} (h : Fresh N w p) (hb : Below w.heap.size w w') : Fresh N w' p := fun b e => by
  obtain ⟨h1, h2⟩ := h b e
  exact ⟨h1, (hb.block b (lt_of_block h2)).trans h2⟩

theorem Fresh.alloc {N : Nat} {w : World} {p : Option Nat} (h : Fresh N w p) (o : Obj) : Fresh N (w.alloc o) p := fun b e => by
  obtain ⟨h1, h2⟩ := h b e
  exact ⟨h1, (heap_old _ _ (lt_of_block h2)).trans h2⟩

theorem Fresh.new {N : Nat} {w : World} (hN : N ≤ w.heap.size) : Fresh N (w.alloc (.cells #[.int .u64 0, .int .u64 0, .int .u64 0, .int .u64 0] 24)) (some w.heap.size) := fun b e => by
  cases e
  exact ⟨hN, heap_new _ _⟩

theorem Apart.new {N : Nat} {w : World} {p : Option Nat} (h : Fresh N w p) : Apart (some w.heap.size) p := fun b c e1 e2 => by
  cases e1
  have := lt_of_block (h c e2).2
  omega

theorem Apart.symm {p q : Option Nat} (h : Apart p q) : Apart q p := fun b c e1 e2 => (h c b e2 e1).symm

theorem Apart.none1 {q : Option Nat} : Apart none q := fun _ _ h => by cases h


end Go.Proofs.Ytpnijncoldihfaa

namespace Go.Proofs.Ytpnijncoldihfaa
open Go.RowKit Go.Shelf

/-- What is listed: the loads, so many calls, these variables. -/
def L22 (i : Nat) (p q : Bool) : Array Bool := #[true, decide (1 ≤ i), true, decide (2 ≤ i), p, q, false, false]

/-- Which operations may come up, state by state. -/
def chk22 (md : Region.Mode) (ops : Array Oper) : Bool :=
  [0, 1, 2].all fun i => [false, true].all fun p => [false, true].all fun q =>
    ((i == 2 && p && q) || !(Region.ready md ops (L22 i p q)).isEmpty) &&
    (Region.ready md ops (L22 i p q)).all fun j => (decide (i < 2) && j == 1 + 2 * i) || (j == 4 && !p) || (j == 5 && !q) || (i == 2 && p && q)

theorem ready22 {md : Region.Mode} {ops : Array Oper} (h : chk22 md ops = true) {i : Nat} (hi : i ≤ 2) (p q : Bool) (hx : ¬ (i = 2 ∧ p = true ∧ q = true)) :
    Region.ready md ops (L22 i p q) ≠ [] ∧ ∀ j ∈ Region.ready md ops (L22 i p q), (i < 2 ∧ j = 1 + 2 * i) ∨ (j = 4 ∧ p = false) ∨ (j = 5 ∧ q = false) := by
  have h1 : i ∈ [0, 1, 2] := by
    rcases (show i = 0 ∨ i = 1 ∨ i = 2 by omega) with h | h | h <;> simp [h]
  have hb : ∀ b : Bool, b ∈ [false, true] := fun b => by cases b <;> simp
  have h2 := List.all_eq_true.1 (List.all_eq_true.1 (List.all_eq_true.1 h i h1) p (hb p)) q (hb q)
  simp only [Bool.and_eq_true, Bool.or_eq_true, List.all_eq_true] at h2
  obtain ⟨h3, h4⟩ := h2
  refine ⟨?_, fun j hj => ?_⟩
  · rcases h3 with h3 | h3
    · exfalso
      apply hx
      simpa [and_assoc] using h3
    · intro h0
      rw [h0] at h3
      simp at h3
  · have h5 := h4 j hj
    simp only [decide_eq_true_eq, beq_iff_eq, Bool.not_eq_true'] at h5
    rcases h5 with ((h5 | h5) | h5) | h5
    · exact Or.inl h5
    · exact Or.inr (Or.inl h5)
    · exact Or.inr (Or.inr h5)
    · exfalso
      apply hx
      obtain ⟨⟨a, b⟩, c⟩ := h5
      exact ⟨a, b, c⟩

/-- A new variable of these cells. -/
def FreshZ (zc : Array Value) (t N : Nat) (w : World) (p : Option Nat) : Prop := ∀ b, p = some b → N ≤ b ∧ w.heap[b]? = some (.cells zc t (0, 0))

section
variable {zc : Array Value} {t N : Nat} {w w' : World} {p : Option Nat}
theorem FreshZ.none : FreshZ zc t N w none := fun _ h => by cases h

theorem FreshZ.call (h : FreshZ zc t N w p) (hb : Below w.heap.size w w') : FreshZ zc t N w' p := fun b e => by
  obtain ⟨h1, h2⟩ := h b e
  exact ⟨h1, (hb.block b (lt_of_block h2)).trans h2⟩

theorem FreshZ.alloc (h : FreshZ zc t N w p) (o : Obj) : FreshZ zc t N (w.alloc o) p := fun b e => by
  obtain ⟨h1, h2⟩ := h b e
  exact ⟨h1, (heap_old _ _ (lt_of_block h2)).trans h2⟩

theorem FreshZ.new (hN : N ≤ w.heap.size) : FreshZ zc t N (w.alloc (.cells zc t (0, 0))) (some w.heap.size) := fun b e => by
  cases e
  exact ⟨hN, heap_new _ _⟩

theorem FreshZ.apart (h : FreshZ zc t N w p) : Apart (some w.heap.size) p := fun b c e1 e2 => by
  cases e1
  have := lt_of_block (h c e2).2
  omega

end

/-- The slots of a state. -/
def T22 (c1 c2 d1 d2 : Nat) (V1 V2 : Value) (l : List Value) (i : Nat) (p q : Option Nat) : List Value :=
  setO d2 q (setO d1 p (setC c2 (decide (2 ≤ i)) V2 (setC c1 (decide (1 ≤ i)) V1 l)))

/-- A state. -/
structure St22 (zc : Array Value) (t c1 c2 d1 d2 : Nat) (V1 V2 : Value) (l : List Value) (ds : List Deferred) (W0 : World) (k : Nat) (listed : Array Bool) (a : Act) (w : World) (i : Nat) (p q : Option Nat) : Prop where
  i2 : i ≤ 2
  k : k + i + (if p.isSome then 1 else 0) + (if q.isSome then 1 else 0) = 4
  listed : listed = L22 i p.isSome q.isSome
  a : a = { tmps := (T22 c1 c2 d1 d2 V1 V2 l i p q).toArray, defers := ds }
  b : Below W0.heap.size W0 w
  fp : FreshZ zc t W0.heap.size w p
  fq : FreshZ zc t W0.heap.size w q
  pq : Apart p q

section
variable {c1 c2 d1 d2 : Nat} {V1 V2 : Value} {l : List Value} {i : Nat} {p q : Option Nat}

/-- No two slots are one. -/
def slots22 (c1 c2 d1 d2 : Nat) : Bool := decide (List.Nodup [c1, c2, d1, d2])

theorem T22_get {x : Nat} (h : x ∉ [c1, c2, d1, d2]) : (T22 c1 c2 d1 d2 V1 V2 l i p q)[x]? = l[x]? := by
  simp only [List.mem_cons, List.not_mem_nil, or_false, not_or] at h
  obtain ⟨h1, h2, h5, h6⟩ := h
  unfold T22
  rw [setO_get (Ne.symm h6), setO_get (Ne.symm h5), setC_get (Ne.symm h2), setC_get (Ne.symm h1)]

theorem T22_call1 (hs : slots22 c1 c2 d1 d2 = true) : (T22 c1 c2 d1 d2 V1 V2 l 0 p q).set c1 V1 = T22 c1 c2 d1 d2 V1 V2 l 1 p q := by
  unfold slots22 at hs
  have h := of_decide_eq_true hs
  simp only [List.nodup_cons, List.mem_cons, List.not_mem_nil, or_false, not_or] at h
  obtain ⟨⟨n12, m11, m12⟩, ⟨m21, m22⟩, o12, _⟩ := h
  unfold T22
  rw [setO_set (Ne.symm m12), setO_set (Ne.symm m11)]
  simp [setC]

theorem T22_call2 (hs : slots22 c1 c2 d1 d2 = true) : (T22 c1 c2 d1 d2 V1 V2 l 1 p q).set c2 V2 = T22 c1 c2 d1 d2 V1 V2 l 2 p q := by
  unfold slots22 at hs
  have h := of_decide_eq_true hs
  simp only [List.nodup_cons, List.mem_cons, List.not_mem_nil, or_false, not_or] at h
  obtain ⟨⟨n12, m11, m12⟩, ⟨m21, m22⟩, o12, _⟩ := h
  unfold T22
  rw [setO_set (Ne.symm m22), setO_set (Ne.symm m21)]
  simp [setC]

theorem T22_p (hs : slots22 c1 c2 d1 d2 = true) (b : Nat) : (T22 c1 c2 d1 d2 V1 V2 l i none q).set d1 (.pointer (some ⟨b, 0, none⟩)) = T22 c1 c2 d1 d2 V1 V2 l i (some b) q := by
  unfold slots22 at hs
  have h := of_decide_eq_true hs
  simp only [List.nodup_cons, List.mem_cons, List.not_mem_nil, or_false, not_or] at h
  obtain ⟨⟨n12, m11, m12⟩, ⟨m21, m22⟩, o12, _⟩ := h
  unfold T22
  rw [setO_set (Ne.symm o12)]
  rfl

theorem T22_q (b : Nat) : (T22 c1 c2 d1 d2 V1 V2 l i p none).set d2 (.pointer (some ⟨b, 0, none⟩)) = T22 c1 c2 d1 d2 V1 V2 l i p (some b) := rfl

end

/-- Two calls in a row beside two variables that are made: in whatever order, all are done in the end. -/
theorem region22 {P : Program} {md : Region.Mode} {ops : Array Oper} {Q : Exit → Act → World → Prop} {W0 w : World} {l : List Value} {ds : List Deferred} {r : Nat} {listed : Array Bool} (zc : Array Value) (t c1 c2 d1 d2 : Nat) (V1 V2 : Value)
    (hchk : chk22 md ops = true) (hsl : slots22 c1 c2 d1 d2 = true) (hlisted : listed = L22 0 false false) (hw : Below W0.heap.size W0 w)
    (h1 : ∀ (T : List Value) (w : World) (K : Act → World → Prop), (∀ x, x ∉ [c1, c2, d1, d2] → T[x]? = l[x]?) → (∀ w', Below w.heap.size w w' → K { tmps := (T.set c1 V1).toArray, defers := ds } w') → wpOp P ops Q 1 K { tmps := T.toArray, defers := ds } w)
    (h2 : ∀ (T : List Value) (w : World) (K : Act → World → Prop), (∀ x, x ∉ [c1, c2, d1, d2] → T[x]? = l[x]?) → (∀ w', Below w.heap.size w w' → K { tmps := (T.set c2 V2).toArray, defers := ds } w') → wpOp P ops Q 3 K { tmps := T.toArray, defers := ds } w)
    (a1 : ∀ (T : List Value) (w : World) (K : Act → World → Prop), K { tmps := (T.set d1 (.pointer (some ⟨w.heap.size, 0, none⟩))).toArray, defers := ds } (w.alloc (.cells zc t (0, 0))) → wpOp P ops Q 4 K { tmps := T.toArray, defers := ds } w)
    (a2 : ∀ (T : List Value) (w : World) (K : Act → World → Prop), K { tmps := (T.set d2 (.pointer (some ⟨w.heap.size, 0, none⟩))).toArray, defers := ds } (w.alloc (.cells zc t (0, 0))) → wpOp P ops Q 5 K { tmps := T.toArray, defers := ds } w)
    (hend : ∀ (w : World) (b1 b2 : Nat), Below W0.heap.size W0 w → W0.heap.size ≤ b1 → W0.heap.size ≤ b2 → w.heap[b1]? = some (.cells zc t (0, 0)) → w.heap[b2]? = some (.cells zc t (0, 0)) → b1 ≠ b2 →
      wpAnyH P md ops Q (fun V => Below W0.heap.size W0 V) r (L22 2 true true) { tmps := ((((l.set c1 V1).set c2 V2).set d1 (.pointer (some ⟨b1, 0, none⟩))).set d2 (.pointer (some ⟨b2, 0, none⟩))).toArray, defers := ds } w) :
    wpAnyH P md ops Q (fun V => Below W0.heap.size W0 V) (r + 4) listed { tmps := l.toArray, defers := ds } w := by
  refine wpAnyH_stage (Φ := fun k listed a w => ∃ i p q, St22 zc t c1 c2 d1 d2 V1 V2 l ds W0 k listed a w i p q) ?_ ?_ 4 listed _ w ⟨0, none, none, ⟨by omega, by simp, by rw [hlisted]; rfl, rfl, hw, FreshZ.none, FreshZ.none, Apart.none1⟩⟩
  · rintro k listed a w ⟨i, p, q, I⟩
    obtain ⟨hi2, hk, hli, ha, hb, fp, fq, pq⟩ := I
    subst hli ha
    have hx : ¬ (i = 2 ∧ p.isSome = true ∧ q.isSome = true) := by
      rintro ⟨e1, e2, e3⟩
      simp only [e1, e2, e3, if_true] at hk
      omega
    obtain ⟨g1, g2⟩ := ready22 hchk hi2 p.isSome q.isSome hx
    refine ⟨g1, fun j hj => ?_⟩
    rcases g2 j hj with ⟨hi, rfl⟩ | ⟨rfl, hn⟩ | ⟨rfl, hn⟩
    · rcases (show i = 0 ∨ i = 1 by omega) with e | e
      · subst e
        refine h1 _ w _ (fun x hx => T22_get hx) (fun w' hb' => ⟨hb.trans (hb'.mono hb.size), 1, p, q, ⟨by omega, by omega, rfl, by rw [T22_call1 hsl], hb.trans (hb'.mono hb.size), fp.call hb', fq.call hb', pq⟩⟩)
      · subst e
        refine h2 _ w _ (fun x hx => T22_get hx) (fun w' hb' => ⟨hb.trans (hb'.mono hb.size), 2, p, q, ⟨by omega, by omega, rfl, by rw [T22_call2 hsl], hb.trans (hb'.mono hb.size), fp.call hb', fq.call hb', pq⟩⟩)
    · have e : p = none := by cases p with | none => rfl | some _ => cases hn
      subst e
      refine a1 _ w _ ⟨hb.alloc hb.size _, i, (some w.heap.size), q, ⟨hi2, by simp only [Option.isSome_none, Option.isSome_some, Bool.false_eq_true, if_false, if_true] at hk ⊢; omega, rfl, by rw [T22_p hsl _], hb.alloc hb.size _, FreshZ.new hb.size, fq.alloc _, fq.apart⟩⟩
    · have e : q = none := by cases q with | none => rfl | some _ => cases hn
      subst e
      refine a2 _ w _ ⟨hb.alloc hb.size _, i, p, (some w.heap.size), ⟨hi2, by simp only [Option.isSome_none, Option.isSome_some, Bool.false_eq_true, if_false, if_true] at hk ⊢; omega, rfl, by rw [T22_q _], hb.alloc hb.size _, fp.alloc _, FreshZ.new hb.size, fp.apart.symm⟩⟩
  · rintro listed a w ⟨i, p, q, I⟩
    obtain ⟨hi2, hk, hli, ha, hb, fp, fq, pq⟩ := I
    have hh : i = 2 ∧ p.isSome = true ∧ q.isSome = true := by
      cases p <;> cases q <;> simp at hk ⊢ <;> omega
    obtain ⟨e0, e1, e2⟩ := hh
    obtain ⟨b1, rfl⟩ := Option.isSome_iff_exists.1 e1
    obtain ⟨b2, rfl⟩ := Option.isSome_iff_exists.1 e2
    subst e0 hli ha
    exact hend w b1 b2 hb (fp b1 rfl).1 (fq b2 rfl).1 (fp b1 rfl).2 (fq b2 rfl).2 (pq _ _ rfl rfl)

end Go.Proofs.Ytpnijncoldihfaa
