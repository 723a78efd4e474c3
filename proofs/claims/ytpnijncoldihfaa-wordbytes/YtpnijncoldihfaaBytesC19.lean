/-
  Two calls beside two variables that are made, whichever comes first; the variables are of any cells.
-/
import Derived.Test.YtpnijncoldihfaaBytesC15
namespace Go.Proofs.Ytpnijncoldihfaa
open Go.RowKit Go.Shelf

/-- All that lay in W0 is as it was but for the box R. -/
structure KeepR (W0 : World) (R : Nat) (V : World) : Prop where
  same : ∀ b, b < W0.heap.size → b ≠ R → V.heap[b]? = W0.heap[b]?
  below : Below R W0 V
  res : ∃ z0 z1 z2 z3, V.heap[R]? = some (.cells #[z0, z1, z2, z3] 24 (0, 0))

section
variable {W0 V V' : World} {R : Nat}
theorem lt_of_block {W : World} {b : Nat} {o : Obj} (h : W.heap[b]? = some o) : b < W.heap.size := (Array.getElem?_eq_some_iff.1 h).1

theorem KeepR.call (h : KeepR W0 R V) (hb : Below V.heap.size V V') : KeepR W0 R V' := by
  obtain ⟨z0, z1, z2, z3, hz⟩ := h.res
  have hs : W0.heap.size ≤ V.heap.size := h.below.size
  exact ⟨fun b h1 h2 => (hb.block b (by omega)).trans (h.same b h1 h2), h.below.trans (hb.mono (Nat.le_of_lt (lt_of_block hz))), z0, z1, z2, z3, (hb.block R (lt_of_block hz)).trans hz⟩

theorem KeepR.store (h : KeepR W0 R V) (z0 z1 z2 z3 : Value) : KeepR W0 R ((((V.setCell ⟨R, 0, none⟩ z0).setCell ⟨R, 1, none⟩ z1).setCell ⟨R, 2, none⟩ z2).setCell ⟨R, 3, none⟩ z3) := by
  obtain ⟨y0, y1, y2, y3, hz⟩ := h.res
  exact ⟨fun b h1 h2 => (other4 h2).trans (h.same b h1 h2), below_stored4 h.below (Nat.le_refl _), z0, z1, z2, z3, stored4 hz⟩

theorem KeepR.cells (h : KeepR W0 R V) {b t : Nat} {u0 u1 u2 u3 : Value} (hb : W0.heap[b]? = some (.cells #[u0, u1, u2, u3] t (0, 0))) (hne : b ≠ R) :
    V.cell? ⟨b, 0, none⟩ = some u0 ∧ V.cell? ⟨b, 1, none⟩ = some u1 ∧ V.cell? ⟨b, 2, none⟩ = some u2 ∧ V.cell? ⟨b, 3, none⟩ = some u3 :=
  cells4 ((h.same b (lt_of_block hb) hne).trans hb)

end

end Go.Proofs.Ytpnijncoldihfaa

namespace Go.Proofs.Ytpnijncoldihfaa
open Go.RowKit Go.Shelf


/-- A new variable of four limbs. -/
def Fresh (N : Nat) (w : World) (p : Option Nat) : Prop := ∀ b, p = some b → N ≤ b ∧ w.heap[b]? = some (.cells #[.int .u64 0, .int .u64 0, .int .u64 0, .int .u64 0] 24 (0, 0))

/-- Two variables are apart. -/
def Apart (p q : Option Nat) : Prop := ∀ b c, p = some b → q = some c → b ≠ c

theorem Fresh.none {N : Nat} {w : World} : Fresh N w none := fun _ h => by cases h

theorem Fresh.call {N : Nat} {w w' : World} {p : Option Nat} (h : Fresh N w p) (hb : Below w.heap.size w w') : Fresh N w' p := fun b e => by
  obtain ⟨h1, h2⟩ := h b e
  exact ⟨h1, (hb.block b (lt_of_block h2)).trans h2⟩

theorem Fresh.alloc {N : Nat} {w : World} {p : Option Nat} (h : Fresh N w p) (o : Obj) : Fresh N (w.alloc o) p := fun b e => by
  obtain ⟨h1, h2⟩ := h b e
  exact ⟨h1, (heap_old _ _ (lt_of_block h2)).trans h2⟩

theorem Fresh.new {N : Nat} {w : World} (hN : N ≤ w.heap.size) : Fresh N (w.alloc (.cells #[.int .u64 0, .int .u64 0, .int .u64 0, .int .u64 0] 24)) (some w.heap.size) := fun b e => by
  cases e
  exact ⟨hN, heap_new _ _⟩

theorem Apart.new {N : Nat} {w : World} {p : Option Nat} (h : Fresh N w p) : Apart (some w.heap.size) p := fun b c e1 e2 => by
  cases e1
  have := lt_of_block (h c e2).2
  omega

theorem Apart.symm {p q : Option Nat} (h : Apart p q) : Apart q p := fun b c e1 e2 => (h c b e2 e1).symm


end Go.Proofs.Ytpnijncoldihfaa

namespace Go.Proofs.Ytpnijncoldihfaa
open Go.RowKit Go.Shelf

/-- A new variable of these cells. -/
def FreshZ (zc : Array Value) (t N : Nat) (w : World) (p : Option Nat) : Prop := ∀ b, p = some b → N ≤ b ∧ w.heap[b]? = some (.cells zc t (0, 0))

section
variable {zc : Array Value} {t N : Nat} {w w' : World} {p : Option Nat}
theorem FreshZ.none : FreshZ zc t N w none := fun _ h => by cases h

theorem FreshZ.call (h : FreshZ zc t N w p) (hb : Below w.heap.size w w') : FreshZ zc t N w' p := fun b e => by
  obtain ⟨h1, h2⟩ := h b e
  exact ⟨h1, (hb.block b (lt_of_block h2)).trans h2⟩

theorem FreshZ.alloc (h : FreshZ zc t N w p) (o : Obj) : FreshZ zc t N (w.alloc o) p := fun b e => by
  obtain ⟨h1, h2⟩ := h b e
  exact ⟨h1, (heap_old _ _ (lt_of_block h2)).trans h2⟩

theorem FreshZ.new (hN : N ≤ w.heap.size) : FreshZ zc t N (w.alloc (.cells zc t (0, 0))) (some w.heap.size) := fun b e => by
  cases e
  exact ⟨hN, heap_new _ _⟩

theorem FreshZ.apart (h : FreshZ zc t N w p) : Apart (some w.heap.size) p := fun b c e1 e2 => by
  cases e1
  have := lt_of_block (h c e2).2
  omega

end


end Go.Proofs.Ytpnijncoldihfaa
