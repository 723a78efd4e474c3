/-
  A region that draws its order and, last, stores a word into a box of its own.
-/
import Derived.Test.YtpnijncoldihfaaSumsC19
import Derived.Test.YtpnijncoldihfaaSumsC15
namespace Go.Proofs.Ytpnijncoldihfaa
open Go.RowKit Go.Shelf

set_option maxHeartbeats 2000000 in
set_option maxRecDepth 100000 in
theorem fromWord_any (X : Nat) (w : World) : Calls Try.prog 87 #[wv X] w fun e w' => e = .returned (lv (X % M256)) ∧ Below w.heap.size w w' := by
  obtain ⟨x0, x1, x2, x3, h0, h1, h2, h3, eX, hX⟩ := wv_limbs X
  have HR := hideP (lv_word h0 h1 h2 h3 eX)
  rw [hX]
  have m : ∀ x : Nat, (x : Int) % 4294967296 = ((x % 4294967296 : Nat) : Int) := fun x => by omega
  have d : ∀ x : Nat, (x : Int) / 4294967296 = ((x / 4294967296 : Nat) : Int) := fun x => by omega
  have a0 := m x0
  have a1 := m x1
  have a2 := m x2
  have a3 := m x3
  have u : ∀ x : Nat, x < 18446744073709551616 → IntKind.u64.wrap ((x / 4294967296 : Nat) : Int) = ((x / 4294967296 : Nat) : Int) := fun x hx => M64.wrapN _ (by omega)
  have u0 := u x0 h0
  have u1 := u x1 h1
  have u2 := u x2 h2
  have u3 := u x3 h3
  have b0 := d x0
  have b1 := d x1
  have b2 := d x2
  have b3 := d x3
  clear m d u eX hX h0 h1 h2 h3
  generalize x0 % 4294967296 = p0 at *
  generalize x1 % 4294967296 = p1 at *
  generalize x2 % 4294967296 = p2 at *
  generalize x3 % 4294967296 = p3 at *
  generalize x0 / 4294967296 = q0 at *
  generalize x1 / 4294967296 = q1 at *
  generalize x2 / 4294967296 = q2 at *
  generalize x3 / 4294967296 = q3 at *
  go_enter Try.func87, Try.ntmps87
  go_wp2_with fail
  rename_i Q' K hK
  have HK := hideP hK
  clear hK
  refine wp_loop_rounds 5 ?_
  rw [rounds_succ]
  go_wp2_with fail
  rw [rounds_succ]
  go_wp2_with fail
  rw [rounds_succ]
  go_wp2_with fail
  rw [rounds_succ]
  go_wp2_with fail
  rw [rounds_succ]
  go_wp2_with fail
  refine HK.out _ _ ?_
  refine end17 (g := dg (X % M256)) (g' := fun _ => 0) (L := w.heap.size + 1 + 1) (R0 := w.heap.size + 1) (t := 76) rfl rfl rfl (by decide) (by show 24 < 25; decide) rfl (range17 (t := 76) ?_) ?_ ?_
  · rw [← show _ = c17 (dg (X % M256)) from Value.agg.inj HR.out]
    simp only [World.alloc, Array.getElem?_push, Array.size_push]
    simp
  · rw [← zero17]
    simp only [World.alloc, Array.getElem?_push, Array.size_push]
    simp
  intro wS g1 g2
  refine ⟨rfl, Below.trans ?_ (g2.below.mono (by omega))⟩
  repeat first | exact Below.refl _ _ | apply Below.drew | (refine Below.alloc ?_ (by simp <;> omega) _) | (refine Below.setCell ?_ (by simp <;> omega) _)

end Go.Proofs.Ytpnijncoldihfaa

namespace Go.Proofs.Ytpnijncoldihfaa
open Go.RowKit Go.Shelf

/-- All that lay in W0 is as it was but for the box R. -/
structure KeepR (W0 : World) (R : Nat) (V : World) : Prop where
  same : ∀ b, b < W0.heap.size → b ≠ R → V.heap[b]? = W0.heap[b]?
  below : Below R W0 V
  res : ∃ z0 z1 z2 z3, V.heap[R]? = some (.cells #[z0, z1, z2, z3] 24 (0, 0))

section
variable {W0 V V' : World} {R : Nat}
theorem KeepR.init {z0 z1 z2 z3 : Value} (h : W0.heap[R]? = some (.cells #[z0, z1, z2, z3] 24 (0, 0))) : KeepR W0 R W0.drew :=
  ⟨fun _ _ _ => rfl, (Below.refl _ _).drew, z0, z1, z2, z3, h⟩

theorem lt_of_block {W : World} {b : Nat} {o : Obj} (h : W.heap[b]? = some o) : b < W.heap.size := (Array.getElem?_eq_some_iff.1 h).1

theorem KeepR.call (h : KeepR W0 R V) (hb : Below V.heap.size V V') : KeepR W0 R V' := by
  obtain ⟨z0, z1, z2, z3, hz⟩ := h.res
  have hs : W0.heap.size ≤ V.heap.size := h.below.size
  exact ⟨fun b h1 h2 => (hb.block b (by omega)).trans (h.same b h1 h2), h.below.trans (hb.mono (Nat.le_of_lt (lt_of_block hz))), z0, z1, z2, z3, (hb.block R (lt_of_block hz)).trans hz⟩

theorem KeepR.store (h : KeepR W0 R V) (z0 z1 z2 z3 : Value) : KeepR W0 R ((((V.setCell ⟨R, 0, none⟩ z0).setCell ⟨R, 1, none⟩ z1).setCell ⟨R, 2, none⟩ z2).setCell ⟨R, 3, none⟩ z3) := by
  obtain ⟨y0, y1, y2, y3, hz⟩ := h.res
  exact ⟨fun b h1 h2 => (other4 h2).trans (h.same b h1 h2), below_stored4 h.below (Nat.le_refl _), z0, z1, z2, z3, stored4 hz⟩

theorem KeepR.cells (h : KeepR W0 R V) {b t : Nat} {u0 u1 u2 u3 : Value} (hb : W0.heap[b]? = some (.cells #[u0, u1, u2, u3] t (0, 0))) (hne : b ≠ R) :
    V.cell? ⟨b, 0, none⟩ = some u0 ∧ V.cell? ⟨b, 1, none⟩ = some u1 ∧ V.cell? ⟨b, 2, none⟩ = some u2 ∧ V.cell? ⟨b, 3, none⟩ = some u3 :=
  cells4 ((h.same b (lt_of_block hb) hne).trans hb)

theorem KeepR.room (h : KeepR W0 R V) : ∃ z0 z1 z2 z3, V.cell? ⟨R, 0, none⟩ = some z0 ∧ V.cell? ⟨R, 1, none⟩ = some z1 ∧ V.cell? ⟨R, 2, none⟩ = some z2 ∧ V.cell? ⟨R, 3, none⟩ = some z3 ∧ ∀ o, V.frozen? ⟨R, o, none⟩ = false := by
  obtain ⟨z0, z1, z2, z3, hz⟩ := h.res
  obtain ⟨a, b, c, d⟩ := cells4 hz
  exact ⟨z0, z1, z2, z3, a, b, c, d, fun o => blk_free hz⟩

end

end Go.Proofs.Ytpnijncoldihfaa
