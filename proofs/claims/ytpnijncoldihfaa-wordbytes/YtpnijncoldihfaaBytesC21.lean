/-
  The document's order of words and its carries; equality.
-/
import Derived.Test.YtpnijncoldihfaaBytesC18
import Derived.Test.YtpnijncoldihfaaBytesC11
import Derived.Test.YtpnijncoldihfaaBytesC20
import Derived.Test.YtpnijncoldihfaaBytesC03
import Derived.Test.YtpnijncoldihfaaBytesC01
namespace Go.Proofs.Ytpnijncoldihfaa
open Go.RowKit Go.Shelf

/-- Where a comparison has come to. -/
structure OI (w wr : World) (A B k : Nat) : Prop where
  a : wr.heap[w.heap.size]? = some (.cells (c17 (dg A)) 76 (0, 0))
  b : wr.heap[w.heap.size + 1]? = some (.cells (c17 (dg B)) 76 (0, 0))
  e : ∀ j, k ≤ j → j < 17 → dg A j = dg B j
  l : Below w.heap.size w wr

theorem OI.start (w : World) (A B : Nat) : OI w ((w.alloc (.cells (c17 (dg A)) 76 (0, 0))).alloc (.cells (c17 (dg B)) 76 (0, 0))) A B 17 := by
  refine ⟨?_, ?_, fun j h1 h2 => absurd h2 (by omega), ?_⟩
  · simp only [World.alloc, Array.getElem?_push, Array.size_push]; simp
  · simp only [World.alloc, Array.getElem?_push, Array.size_push]; simp
  · refine Below.alloc ?_ (by simp <;> omega) _
    refine Below.alloc ?_ (by simp <;> omega) _
    exact Below.refl _ _

end Go.Proofs.Ytpnijncoldihfaa

namespace Go.Proofs.Ytpnijncoldihfaa
open Go.RowKit Go.Shelf

/-- All but the box R is as it was; R is a box of four cells. -/
structure KeepT (t : Nat) (W0 : World) (R : Nat) (V : World) : Prop where
  same : ∀ b, b < W0.heap.size → b ≠ R → V.heap[b]? = W0.heap[b]?
  below : Below R W0 V
  res : ∃ z0 z1 z2 z3, V.heap[R]? = some (.cells #[z0, z1, z2, z3] t (0, 0))

section
variable {t : Nat} {W0 V V' : World} {R : Nat}
theorem KeepT.call (h : KeepT t W0 R V) (hb : Below V.heap.size V V') : KeepT t W0 R V' := by
  obtain ⟨z0, z1, z2, z3, hz⟩ := h.res
  have hs : W0.heap.size ≤ V.heap.size := h.below.size
  exact ⟨fun b h1 h2 => (hb.block b (by omega)).trans (h.same b h1 h2), h.below.trans (hb.mono (Nat.le_of_lt (lt_of_block hz))), z0, z1, z2, z3, (hb.block R (lt_of_block hz)).trans hz⟩

theorem KeepT.store (h : KeepT t W0 R V) (z0 z1 z2 z3 : Value) : KeepT t W0 R ((((V.setCell ⟨R, 0, none⟩ z0).setCell ⟨R, 1, none⟩ z1).setCell ⟨R, 2, none⟩ z2).setCell ⟨R, 3, none⟩ z3) := by
  obtain ⟨y0, y1, y2, y3, hz⟩ := h.res
  exact ⟨fun b h1 h2 => (other4 h2).trans (h.same b h1 h2), below_stored4 h.below (Nat.le_refl _), z0, z1, z2, z3, stored4 hz⟩

theorem KeepT.cells (h : KeepT t W0 R V) {b t' : Nat} {u0 u1 u2 u3 : Value} (hb : W0.heap[b]? = some (.cells #[u0, u1, u2, u3] t' (0, 0))) (hne : b ≠ R) :
    V.cell? ⟨b, 0, none⟩ = some u0 ∧ V.cell? ⟨b, 1, none⟩ = some u1 ∧ V.cell? ⟨b, 2, none⟩ = some u2 ∧ V.cell? ⟨b, 3, none⟩ = some u3 :=
  cells4 ((h.same b (lt_of_block hb) hne).trans hb)

end

theorem at_world_q {P : Program} {f : FuncId} {args : Array Value} {w : World} {Q : Ending → World → Prop} (h : ∀ W0, W0 = w → Calls P f args W0 Q) : Calls P f args w Q := h w rfl

end Go.Proofs.Ytpnijncoldihfaa

namespace Go.Proofs.Ytpnijncoldihfaa
open Go.RowKit Go.Shelf

theorem eq_words (a b c d a' b' c' d' : Int) (W : World) : (Op.equalIn 10000 24 (.agg #[.int .u64 a, .int .u64 b, .int .u64 c, .int .u64 d]) (.agg #[.int .u64 a', .int .u64 b', .int .u64 c', .int .u64 d'])).run Try.prog W = .ok (a == a' && (b == b' && (c == c' && d == d'))) W := by
  have h : ∀ x y : Int, (Op.equalIn 9999 22 (.int .u64 x) (.int .u64 y)).run Try.prog W = .ok (x == y) W := fun x y => by
    unfold Op.equalIn
    simp [go_sem]
  unfold Op.equalIn
  simp [go_sem, List.range', h]
  by_cases h1 : a = a' <;> by_cases h2 : b = b' <;> by_cases h3 : c = c' <;> by_cases h4 : d = d' <;> simp [go_sem, h1, h2, h3, h4]

end Go.Proofs.Ytpnijncoldihfaa

namespace Go.Proofs.Ytpnijncoldihfaa
open Go.RowKit Go.Shelf

set_option maxHeartbeats 2000000 in
set_option maxRecDepth 100000 in
theorem same_any (X : Nat) (w : World) : Calls Try.prog 20 #[wv X, wv X] w fun e w' => e = .returned (.bool true) ∧ Below w.heap.size w w' := by
  obtain ⟨x0, x1, x2, x3, hx⟩ := wv_form X
  rw [hx]
  have heq : ∀ W : World, (Op.equalIn 10000 24 (.agg #[.int .u64 x0, .int .u64 x1, .int .u64 x2, .int .u64 x3]) (.agg #[.int .u64 x0, .int .u64 x1, .int .u64 x2, .int .u64 x3])).run Try.prog W = .ok true W := fun W => by rw [eq_words]; simp
  clear hx
  go_enter Try.func20, Try.ntmps20
  go_wp2_with fail
  go_ret
  refine ⟨rfl, ?_⟩
  repeat first | exact Below.refl _ _ | apply Below.drew | (refine Below.alloc ?_ (by simp <;> omega) _) | (refine Below.setCell ?_ (by simp <;> omega) _)

end Go.Proofs.Ytpnijncoldihfaa
