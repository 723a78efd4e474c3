/-
  What is held over regions that write into one box.
-/
import Derived.Test.YtiekipkmfopdoaaAddm4
namespace Go.Proofs.Ytiekipkmfopdoaa.W4
open Go.RowKit Go.Shelf

/-- All older blocks but R0 are as they were; R0 is a box of so many limbs. -/
structure KP (W : World) (R0 : Nat) (V : World) : Prop where
  same : ∀ b, b < W.heap.size → b ≠ R0 → V.heap[b]? = W.heap[b]?
  below : Below R0 W V
  res : ∃ g : Nat → Nat, V.heap[R0]? = some (.cells (cs g) 24 (0, 0))

section
variable {W V V' : World} {R0 : Nat}
theorem KP.init {g : Nat → Nat} (h : W.heap[R0]? = some (.cells (cs g) 24 (0, 0))) : KP W R0 W.drew := ⟨fun _ _ _ => rfl, (Below.refl _ _).drew, g, h⟩
theorem KP.size (h : KP W R0 V) : W.heap.size ≤ V.heap.size := h.below.size
theorem KP.call (h : KP W R0 V) (hb : Below V.heap.size V V') : KP W R0 V' := by
  obtain ⟨g, hg⟩ := h.res
  have hlt := lt_of_block hg
  exact ⟨fun b h1 h2 => (hb.block b (Nat.lt_of_lt_of_le h1 h.size)).trans (h.same b h1 h2), h.below.trans (hb.mono (Nat.le_of_lt hlt)), g, (hb.block _ hlt).trans hg⟩
theorem KP.there (h : KP W R0 V) (g' : Nat → Nat) : V.there R0 0 (cs g').size := by
  obtain ⟨g, hg⟩ := h.res
  exact there_cs hg g'
theorem KP.put (h : KP W R0 V) (g' : Nat → Nat) : (V.setCells R0 0 (cs g').toList).heap[R0]? = some (.cells (cs g') 24 (0, 0)) := by
  obtain ⟨g, hg⟩ := h.res
  have h1 := blk_sets (cs g').toList 0 hg
  rwa [putAll_cs] at h1
theorem KP.store (h : KP W R0 V) (g' : Nat → Nat) : KP W R0 (V.setCells R0 0 (cs g').toList) := by
  have hB := But.sets (cs g').toList 0 (But.refl R0 V)
  exact ⟨fun b h1 h2 => (hB.same b h2).trans (h.same b h1 h2), h.below.trans hB.below, g', h.put g'⟩
theorem KP.ring (h : KP W R0 V) {p m f o r : Nat} (hr : RingAt W p m f o r) (hne : p ≠ R0) : RingAt V p m f o r := ⟨(h.same p hr.lt hne).trans hr.heap⟩
theorem KP.good (h : KP W R0 V) {p m : Nat} (hr : Good W p m) (hne : p ≠ R0) : Good V p m := by
  obtain ⟨f, h1, h2⟩ := hr.ex
  exact ⟨f, h1, h.ring h2 hne⟩
theorem KP.box (h : KP W R0 V) {b t : Nat} {C : Array Value} (hb : W.heap[b]? = some (.cells C t (0, 0))) (hne : b ≠ R0) : V.heap[b]? = some (.cells C t (0, 0)) := (h.same b (lt_of_block hb) hne).trans hb
end

end Go.Proofs.Ytiekipkmfopdoaa.W4
