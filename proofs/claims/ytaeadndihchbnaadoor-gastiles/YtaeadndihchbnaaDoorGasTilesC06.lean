/-
  Bytes in memory: slices that are read.
-/
import Derived.RangeFuncWrites
import Derived.Test.YtaeadndihchbnaaDoorGasTilesC04
namespace Go.Proofs.YtaeadndihchbnaaDoor
open Go.RowKit Go.Shelf

/-- Bytes that can be read: a slice. -/
structure BS (w : World) (ao : Option Addr) (n cap : Nat) (bs : Nat → Nat) : Prop where
  lt : ∀ j, bs j < 256
  le : n ≤ cap
  room : cap ≤ maxLen
  cell : ∀ j, j < n → ∃ ad, ao = some ad ∧ w.cell? (ad.add j) = some (.int .u8 (bs j))
  nil : ao = none → cap = 0

theorem BS.moved {w w' : World} {ao : Option Addr} {n cap : Nat} {bs : Nat → Nat} (h : BS w ao n cap bs) (hb : Below w.heap.size w w') : BS w' ao n cap bs :=
  ⟨h.lt, h.le, h.room, fun j hj => by
    obtain ⟨ad, e, hc⟩ := h.cell j hj
    exact ⟨ad, e, (hb.cell (p := ad.add j) (World.block_lt_of_cell? w _ hc)).trans hc⟩, h.nil⟩

theorem below_putObj {N : Nat} {V : World} {l : Nat} (o : Obj) (h : N ≤ l) : Below N V (V.putObj l o) :=
  ⟨rfl, rfl, rfl, by simp [World.putObj], fun k hk => World.putObj_heap_other (by omega)⟩

theorem putObj_cells {V : World} {l b : Nat} {o o' x : Obj} (hl : V.heap[l]? = some o) (ho : o.isCells = false) (hb : V.heap[b]? = some x) (hx : x.isCells = true) : (V.putObj l o').heap[b]? = some x := by
  refine (World.putObj_heap_other (fun e => ?_)).trans hb
  subst e
  rw [hl] at hb
  cases hb
  rw [ho] at hx
  cases hx

theorem putObj_cell {V : World} {l : Nat} {o o' : Obj} {p : Addr} {u : Value} (hl : V.heap[l]? = some o) (ho : o.isCells = false) (h : V.cell? p = some u) : (V.putObj l o').cell? p = some u := by
  have hne : p.block ≠ l := fun e => by
    simp only [World.cell?, e, hl] at h
    cases o <;> simp [Obj.isCells] at ho h
  rw [World.cell?_of_block (World.putObj_heap_other hne)]
  exact h

theorem BS.putObj {w : World} {ao : Option Addr} {n cap : Nat} {bs : Nat → Nat} (h : BS w ao n cap bs) {l : Nat} {o o' : Obj} (hl : w.heap[l]? = some o) (ho : o.isCells = false) : BS (w.putObj l o') ao n cap bs :=
  ⟨h.lt, h.le, h.room, fun j hj => by
    obtain ⟨ad, e, hc⟩ := h.cell j hj
    exact ⟨ad, e, putObj_cell hl ho hc⟩, h.nil⟩

end Go.Proofs.YtaeadndihchbnaaDoor
