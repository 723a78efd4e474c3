/-
  The document's long numbers: the digits of a word.
-/
import Derived.Test.YtpnijncoldihfaaRefA
namespace Go.Proofs.Ytpnijncoldihfaa
open Go.RowKit Go.Shelf

set_option maxHeartbeats 2000000 in
set_option maxRecDepth 100000 in
theorem fromWord_any (X : Nat) (w : World) : Calls Try.prog 87 #[wv X] w fun e w' => e = .returned (lv (X % M256)) ∧ Below w.heap.size w w' := by
  obtain ⟨x0, x1, x2, x3, h0, h1, h2, h3, eX, hX⟩ := wv_limbs X
  have HR := hideP (lv_word h0 h1 h2 h3 eX)
  rw [hX]
  have m : ∀ x : Nat, (x : Int) % 4294967296 = ((x % 4294967296 : Nat) : Int) := fun x => by omega
  have d : ∀ x : Nat, (x : Int) / 4294967296 = ((x / 4294967296 : Nat) : Int) := fun x => by omega
  have a0 := m x0
  have a1 := m x1
  have a2 := m x2
  have a3 := m x3
  have u : ∀ x : Nat, x < 18446744073709551616 → IntKind.u64.wrap ((x / 4294967296 : Nat) : Int) = ((x / 4294967296 : Nat) : Int) := fun x hx => M64.wrapN _ (by omega)
  have u0 := u x0 h0
  have u1 := u x1 h1
  have u2 := u x2 h2
  have u3 := u x3 h3
  have b0 := d x0
  have b1 := d x1
  have b2 := d x2
  have b3 := d x3
  clear m d u eX hX h0 h1 h2 h3
  generalize x0 % 4294967296 = p0 at *
  generalize x1 % 4294967296 = p1 at *
  generalize x2 % 4294967296 = p2 at *
  generalize x3 % 4294967296 = p3 at *
  generalize x0 / 4294967296 = q0 at *
  generalize x1 / 4294967296 = q1 at *
  generalize x2 / 4294967296 = q2 at *
  generalize x3 / 4294967296 = q3 at *
  go_enter Try.func87, Try.ntmps87
  go_wp2_with fail
  rename_i Q' K hK
  have HK := hideP hK
  clear hK
  refine wp_loop_rounds 5 ?_
  rw [rounds_succ]
  go_wp2_with fail
  rw [rounds_succ]
  go_wp2_with fail
  rw [rounds_succ]
  go_wp2_with fail
  rw [rounds_succ]
  go_wp2_with fail
  rw [rounds_succ]
  go_wp2_with fail
  refine HK.out _ _ ?_
  refine end17 (g := dg (X % M256)) (g' := fun _ => 0) (L := w.heap.size + 1 + 1) (R0 := w.heap.size + 1) (t := 76) rfl rfl rfl (by decide) (by show 24 < 25; decide) rfl (range17 (t := 76) ?_) ?_ ?_
  · rw [← show _ = c17 (dg (X % M256)) from Value.agg.inj HR.out]
    simp only [World.alloc, Array.getElem?_push, Array.size_push]
    simp
  · rw [← zero17]
    simp only [World.alloc, Array.getElem?_push, Array.size_push]
    simp
  intro wS g1 g2
  refine ⟨rfl, Below.trans ?_ (g2.below.mono (by omega))⟩
  repeat first | exact Below.refl _ _ | apply Below.drew | (refine Below.alloc ?_ (by simp <;> omega) _) | (refine Below.setCell ?_ (by simp <;> omega) _)

end Go.Proofs.Ytpnijncoldihfaa
