/-
  Four calls beside four variables that are made, whichever comes first.
-/
import Derived.Test.YtpnijncoldihfaaSumsC20
namespace Go.Proofs.Ytpnijncoldihfaa
open Go.RowKit Go.Shelf

section
variable {P : Program} {md : Region.Mode} {ops : Array Oper} {Q : Exit → Act → World → Prop} {S : World → Prop}

/-- A stage of a region: what holds of its states leads through it. -/
theorem wpAnyH_stage {Φ : Nat → Array Bool → Act → World → Prop} {r : Nat}
    (hstep : ∀ k listed a w, Φ (k + 1) listed a w → Region.ready md ops listed ≠ [] ∧ ∀ i ∈ Region.ready md ops listed, wpOp P ops Q i (fun a' w' => S w' ∧ Φ k (listed.setIfInBounds i true) a' w') a w)
    (hend : ∀ listed a w, Φ 0 listed a w → wpAnyH P md ops Q S r listed a w) :
    ∀ k listed a w, Φ k listed a w → wpAnyH P md ops Q S (r + k) listed a w
  | 0, listed, a, w, h => hend listed a w h
  | k + 1, listed, a, w, h => by
    obtain ⟨h1, h2⟩ := hstep k listed a w h
    exact ⟨fun h0 => absurd h0 h1, fun i hi => wpOp_mono (fun a' w' h' => ⟨h'.1, wpAnyH_stage hstep hend k _ a' w' h'.2⟩) (h2 i hi)⟩

end

/-- A slot that is set, if the variable is made. -/
def setO (d : Nat) (p : Option Nat) (t : List Value) : List Value := match p with | none => t | some b => t.set d (.pointer (some ⟨b, 0, none⟩))

/-- A slot that is set, if the call is done. -/
def setC (c : Nat) (b : Bool) (v : Value) (t : List Value) : List Value := if b then t.set c v else t

theorem setO_set {d c : Nat} {p : Option Nat} {t : List Value} {v : Value} (h : d ≠ c) : (setO d p t).set c v = setO d p (t.set c v) := by
  cases p with
  | none => rfl
  | some b => exact List.set_comm _ _ h

theorem setO_get {d s : Nat} {p : Option Nat} {t : List Value} (h : d ≠ s) : (setO d p t)[s]? = t[s]? := by
  cases p with
  | none => rfl
  | some b => exact List.getElem?_set_ne h

theorem setC_get {d s : Nat} {b : Bool} {t : List Value} {u : Value} (h : d ≠ s) : (setC d b u t)[s]? = t[s]? := by
  cases b with
  | false => rfl
  | true => exact List.getElem?_set_ne h

/-- A new variable of four limbs. -/
def Fresh (N : Nat) (w : World) (p : Option Nat) : Prop := ∀ b, p = some b → N ≤ b ∧ w.heap[b]? = some (.cells #[.int .u64 0, .int .u64 0, .int .u64 0, .int .u64 0] 24 (0, 0))

/-- Two variables are apart. -/
def Apart (p q : Option Nat) : Prop := ∀ b c, p = some b → q = some c → b ≠ c

theorem Fresh.none {N : Nat} {w : World} : Fresh N w none := fun _ h => by cases h

theorem Fresh.call {N : Nat} {w w' : World} {p : Option Nat} (h : Fresh N w p) (hb : Below w.heap.size w w') : Fresh N w' p := fun b e => by
  obtain ⟨h1, h2⟩ := h b e
  exact ⟨h1, (hb.block b (lt_of_block h2)).trans h2⟩

theorem Fresh.alloc {N : Nat} {w : World} {p : Option Nat} (h : Fresh N w p) (o : Obj) : Fresh N (w.alloc o) p := fun b e => by
  obtain ⟨h1, h2⟩ := h b e
  exact ⟨h1, (heap_old _ _ (lt_of_block h2)).trans h2⟩

theorem Fresh.new {N : Nat} {w : World} (hN : N ≤ w.heap.size) : Fresh N (w.alloc (.cells #[.int .u64 0, .int .u64 0, .int .u64 0, .int .u64 0] 24)) (some w.heap.size) := fun b e => by
  cases e
  exact ⟨hN, heap_new _ _⟩

theorem Apart.new {N : Nat} {w : World} {p : Option Nat} (h : Fresh N w p) : Apart (some w.heap.size) p := fun b c e1 e2 => by
  cases e1
  have := lt_of_block (h c e2).2
  omega

theorem Apart.symm {p q : Option Nat} (h : Apart p q) : Apart q p := fun b c e1 e2 => (h c b e2 e1).symm

theorem Apart.none1 {q : Option Nat} : Apart none q := fun _ _ h => by cases h


end Go.Proofs.Ytpnijncoldihfaa
