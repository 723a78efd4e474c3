/-
  A ring as it lies in memory.
-/
import Derived.Test.YtiekipkmfopdoaaSub6
namespace Go.Proofs.Ytiekipkmfopdoaa.W6
open Go.RowKit Go.Shelf

theorem putAll_cs (g' g : Nat → Nat) : putAll (cs g') 0 (cs g).toList = cs g := by
  simp [cs, putAll]

theorem there_cs {w : World} {b t : Nat} {g : Nat → Nat} (h : w.heap[b]? = some (.cells (cs g) t (0, 0))) (g' : Nat → Nat) : w.there b 0 (cs g').size := by
  have h1 := thereOf h
  rw [cs_size] at h1 ⊢
  exact h1



/-- The cells of a ring: its modulus, what fills, one, the radix. -/
def rc (m f o r : Nat) : Array Value := #[.int .u64 (limb m 0), .int .u64 (limb m 1), .int .u64 (limb m 2), .int .u64 (limb m 3), .int .u64 (limb m 4), .int .u64 (limb m 5), .int .u64 f, .int .u64 (limb o 0), .int .u64 (limb o 1), .int .u64 (limb o 2), .int .u64 (limb o 3), .int .u64 (limb o 4), .int .u64 (limb o 5), .int .u64 (limb r 0), .int .u64 (limb r 1), .int .u64 (limb r 2), .int .u64 (limb r 3), .int .u64 (limb r 4), .int .u64 (limb r 5)]

/-- A ring lies there. -/
structure RingAt (w : World) (p m f o r : Nat) : Prop where
  heap : w.heap[p]? = some (.cells (rc m f o r) 100 (0, 0))

section
variable {w w' : World} {p m f o r : Nat}
theorem RingAt.below (h : RingAt w p m f o r) (hb : Below w.heap.size w w') : RingAt w' p m f o r := ⟨(hb.block p (lt_of_block h.heap)).trans h.heap⟩
theorem RingAt.belowN (h : RingAt w p m f o r) {N : Nat} (hp : p < N) (hb : Below N w w') : RingAt w' p m f o r := ⟨(hb.block p hp).trans h.heap⟩
theorem RingAt.drew (h : RingAt w p m f o r) : RingAt w.drew p m f o r := ⟨h.heap⟩
theorem RingAt.lt (h : RingAt w p m f o r) : p < w.heap.size := lt_of_block h.heap
theorem RingAt.mod (h : RingAt w p m f o r) : w.rangeAt p 0 (cs (limb m)).toList := World.rangeAt_of_block h.heap 0 6
theorem RingAt.one (h : RingAt w p m f o r) : w.rangeAt p (6 + 1) (cs (limb o)).toList := World.rangeAt_of_block h.heap (6 + 1) 6
theorem RingAt.radix (h : RingAt w p m f o r) : w.rangeAt p (2 * 6 + 1) (cs (limb r)).toList := World.rangeAt_of_block h.heap (2 * 6 + 1) 6
theorem RingAt.fill (h : RingAt w p m f o r) : w.cell? ⟨p, 6, none⟩ = some (.int .u64 f) := blk_cell h.heap rfl
theorem RingAt.limbAt (h : RingAt w p m f o r) {j : Nat} (hj : j < 6) : w.cell? ⟨p, j, none⟩ = some (.int .u64 (limb m j)) := by
  have h1 := h.mod j (.int .u64 (limb m j)) (by rw [Array.getElem?_toList]; exact get _ hj)
  rwa [Nat.zero_add] at h1
end

end Go.Proofs.Ytiekipkmfopdoaa.W6
