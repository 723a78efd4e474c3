/-
  Elements of a ring: what they stand for; their products.
-/
import Derived.Test.YtiekipkmfopdoaaMont4
namespace Go.Proofs.Ytiekipkmfopdoaa.W4
open Go.RowKit Go.Shelf

/-- The element that stands for X. -/
def el (m X : Nat) : Nat := X * R % m

/-- A modulus and what fills. -/
structure MF (m f : Nat) : Prop where
  odd : m % 2 = 1
  lt : m < R
  ge : 3 ≤ m
  fill : (limb m 0 * f + 1) % 18446744073709551616 = 0

section
variable {m f : Nat}
theorem MF.pos (h : MF m f) : 0 < m := by have := h.ge; omega
theorem el_lt (h : MF m f) (X : Nat) : el m X < m := Nat.mod_lt _ h.pos
theorem el_ltR (h : MF m f) (X : Nat) : el m X < R := Nat.lt_trans (el_lt h X) h.lt
theorem el_mod (m X : Nat) : el m (X % m) = el m X := by unfold el; rw [Nat.mod_mul_mod]
theorem el_add (m X Y : Nat) : (el m X + el m Y) % m = el m (X + Y) := by unfold el; rw [← Nat.add_mod, Nat.add_mul]
theorem el_uniq (h : MF m f) {P X : Nat} (hP : P < m) (e : P * R % m = X * R * R % m) : P = el m X := by
  obtain ⟨k, hk⟩ := R_two
  refine MN.uniq h.odd k hP (el_lt h X) ?_
  rw [← hk, e]
  unfold el
  rw [Nat.mod_mul_mod]
theorem el_inj (h : MF m f) {X Y : Nat} (e : el m X = el m Y) : X % m = Y % m := by
  obtain ⟨k, hk⟩ := R_two
  unfold el at e
  rw [hk] at e
  exact MN.halves h.odd k e
end

theorem mult_any {p m f o r : Nat} {w : World} (hr : RingAt w p m f o r) (h : MF m f) (A C : Nat) (hA : A < R) (hC : C < R) (hAC : A * C < R * m) :
    Calls Try.prog 75 #[.pointer (some ⟨p, 0, none⟩), wv A, wv C] w fun e w' => (∃ P : Nat, e = .returned (wv P) ∧ P < m ∧ P * R % m = A * C % m) ∧ Below w.heap.size w w' := by
  have hcall := multiply_raw p m f o r (limb A) (limb C) (limb_lt A) (limb_lt C) w hr h.lt h.pos h.fill (by rw [val_limbs hA, val_limbs hC]; exact hAC)
  rw [val_limbs hA, val_limbs hC] at hcall
  exact hcall

theorem mul_ltRm {R A C m : Nat} (hA : A < R) (hC : C < m) : A * C < R * m := by
  have h1 : A * C ≤ A * m := Nat.mul_le_mul_left _ (by omega)
  have h2 : A * m < R * m := Nat.mul_lt_mul_of_pos_right hA (by omega)
  omega

theorem mult_el {p m f o r : Nat} {w : World} (hr : RingAt w p m f o r) (h : MF m f) (X Y : Nat) :
    Calls Try.prog 75 #[.pointer (some ⟨p, 0, none⟩), wv (el m X), wv (el m Y)] w fun e w' => e = .returned (wv (el m (X * Y))) ∧ Below w.heap.size w w' := by
  refine (mult_any hr h (el m X) (el m Y) (el_ltR h X) (el_ltR h Y) (mul_ltRm (el_ltR h X) (el_lt h Y))).mono ?_
  rintro e w' ⟨⟨P, rfl, hP, hPR⟩, hb⟩
  refine ⟨?_, hb⟩
  rw [el_uniq h hP (X := X * Y)]
  rw [hPR]
  unfold el
  rw [← Nat.mul_mod]
  have e2 : X * R * (Y * R) = X * Y * R * R := by generalize R = Q; grind
  rw [e2]

/-- Into the ring. -/
theorem mult_in {p m f o : Nat} {w : World} (hr : RingAt w p m f o (el m R)) (h : MF m f) (A : Nat) (hA : A < R) :
    Calls Try.prog 75 #[.pointer (some ⟨p, 0, none⟩), wv A, wv (el m R)] w fun e w' => e = .returned (wv (el m A)) ∧ Below w.heap.size w w' := by
  refine (mult_any hr h A (el m R) hA (el_ltR h R) (mul_ltRm hA (el_lt h R))).mono ?_
  rintro e w' ⟨⟨P, rfl, hP, hPR⟩, hb⟩
  refine ⟨?_, hb⟩
  rw [el_uniq h hP (X := A)]
  rw [hPR]
  unfold el
  rw [Nat.mul_mod_mod, ← Nat.mul_assoc]

/-- Out of the ring. -/
theorem mult_out {p m f o r : Nat} {w : World} (hr : RingAt w p m f o r) (h : MF m f) (X : Nat) :
    Calls Try.prog 75 #[.pointer (some ⟨p, 0, none⟩), wv (el m X), wv 1] w fun e w' => e = .returned (wv (X % m)) ∧ Below w.heap.size w w' := by
  have hge := h.ge
  refine (mult_any hr h (el m X) 1 (el_ltR h X) (by decide) (mul_ltRm (el_ltR h X) (by omega))).mono ?_
  rintro e w' ⟨⟨P, rfl, hP, hPR⟩, hb⟩
  refine ⟨?_, hb⟩
  obtain ⟨k, hk⟩ := R_two
  have e : P = X % m := by
    refine MN.uniq h.odd k hP (Nat.mod_lt _ h.pos) ?_
    rw [← hk, hPR, Nat.mul_one, Nat.mod_mul_mod]
    unfold el
    rw [Nat.mod_mod]
  rw [e]

/-- A ring that Make made. -/
structure Good (w : World) (p m : Nat) : Prop where
  ex : ∃ f, MF m f ∧ RingAt w p m f (el m 1) (el m R)

theorem Good.below {w w' : World} {p m : Nat} (h : Good w p m) (hb : Below w.heap.size w w') : Good w' p m := by
  obtain ⟨f, h1, h2⟩ := h.ex
  exact ⟨f, h1, h2.below hb⟩
theorem Good.belowN {w w' : World} {p m N : Nat} (h : Good w p m) (hp : p < N) (hb : Below N w w') : Good w' p m := by
  obtain ⟨f, h1, h2⟩ := h.ex
  exact ⟨f, h1, h2.belowN hp hb⟩
theorem Good.lt {w : World} {p m : Nat} (h : Good w p m) : p < w.heap.size := by
  obtain ⟨f, h1, h2⟩ := h.ex
  exact h2.lt

set_option maxHeartbeats 400000 in
set_option maxRecDepth 100000 in
theorem isMade_at {p m f o r : Nat} {w : World} (hr : RingAt w p m f o r) : Calls Try.prog 76 #[.pointer (some ⟨p, 0, none⟩)] w fun e w' => e = .returned (.bool (!((limb m 0 : Int) == 0))) ∧ w = w' := by
  have c0 := hr.limbAt (show 0 < 4 by decide)
  clear hr
  go_enter Try.func76, Try.ntmps76
  go_wp2
  go_ret
  simp [bne]

set_option maxHeartbeats 400000 in
set_option maxRecDepth 100000 in
theorem isMade_nil {w : World} : Calls Try.prog 76 #[.pointer none] w fun e w' => e = .returned (.bool false) ∧ w = w' := by
  go_enter Try.func76, Try.ntmps76
  go_wp2
  go_ret
  simp

theorem limb0_odd {m : Nat} (h : m % 2 = 1) : limb m 0 % 2 = 1 := by unfold limb; simp; omega

theorem isMade_good {p m f o r : Nat} {w : World} (hr : RingAt w p m f o r) (h : MF m f) : Calls Try.prog 76 #[.pointer (some ⟨p, 0, none⟩)] w fun e w' => e = .returned (.bool true) ∧ w = w' := by
  refine (isMade_at hr).mono ?_
  rintro e w' ⟨rfl, rfl⟩
  have := limb0_odd h.odd
  have h2 : ((limb m 0 : Int) == 0) = false := by rw [beq_eq_false_iff_ne]; omega
  exact ⟨by rw [h2]; rfl, rfl⟩

end Go.Proofs.Ytiekipkmfopdoaa.W4
