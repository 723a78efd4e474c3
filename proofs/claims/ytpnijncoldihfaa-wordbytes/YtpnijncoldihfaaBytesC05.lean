/-
  The arithmetic of products of words, limb by limb.
-/
import Derived.Test.YtpnijncoldihfaaBytesC04
namespace Go.Proofs.Ytpnijncoldihfaa

namespace Gen
variable {B : Nat}
theorem step_row {x y Q a A c l h : Nat} (e : x * y + a + c = l + B * h) : x * (y + B * Q) + (a + B * A) + c = l + B * (x * Q + A + h) := by
  rw [Nat.mul_add, Nat.mul_add, Nat.mul_add, Nat.mul_left_comm x B Q]; omega

/-- The lowest four limbs of a product. -/
theorem mul4 {x0 x1 x2 x3 y0 y1 y2 y3 l00 l01 l02 l03 l10 l11 l12 l20 l21 l30 h00 h01 h02 h03 h10 h11 h12 h20 h21 h30 : Nat}
    (e00 : x0 * y0 + 0 + 0 = l00 + B * h00) (e01 : x0 * y1 + 0 + h00 = l01 + B * h01) (e02 : x0 * y2 + 0 + h01 = l02 + B * h02) (e03 : x0 * y3 + 0 + h02 = l03 + B * h03)
    (e10 : x1 * y0 + l01 + 0 = l10 + B * h10) (e11 : x1 * y1 + l02 + h10 = l11 + B * h11) (e12 : x1 * y2 + l03 + h11 = l12 + B * h12)
    (e20 : x2 * y0 + l11 + 0 = l20 + B * h20) (e21 : x2 * y1 + l12 + h20 = l21 + B * h21) (e30 : x3 * y0 + l21 + 0 = l30 + B * h30) :
    ∃ K, (x0 + B * (x1 + B * (x2 + B * x3))) * (y0 + B * (y1 + B * (y2 + B * y3))) = l00 + B * (l10 + B * (l20 + B * (l30 + B * K))) := by
  obtain ⟨Y1, hY1⟩ : ∃ Y1, Y1 = y1 + B * (y2 + B * y3) := ⟨_, rfl⟩
  obtain ⟨Y2, hY2⟩ : ∃ Y2, Y2 = y2 + B * y3 := ⟨_, rfl⟩
  -- row 3
  have r3 : x3 * (y0 + B * Y1) + l21 = l30 + B * (x3 * Y1 + h30) := by
    have := step_row (B := B) (Q := Y1) (A := 0) e30
    simpa using this
  have r2 : x2 * (y0 + B * Y1) + (l11 + B * l12) = l20 + B * (l21 + B * (x2 * Y2 + h21)) := by
    have a := step_row (B := B) (Q := Y2) (A := 0) e21
    have b := step_row (B := B) (Q := y1 + B * Y2) (A := l12) e20
    rw [hY1, ← hY2]
    simp only [Nat.mul_zero, Nat.add_zero] at a b
    rw [b, a]
  have r1 : x1 * (y0 + B * Y1) + (l01 + B * (l02 + B * l03)) = l10 + B * (l11 + B * (l12 + B * (x1 * y3 + h12))) := by
    have a := step_row (B := B) (Q := y3) (A := 0) e12
    have b := step_row (B := B) (Q := y2 + B * y3) (A := l03) e11
    have c := step_row (B := B) (Q := y1 + B * (y2 + B * y3)) (A := l02 + B * l03) e10
    rw [hY1]
    simp only [Nat.mul_zero, Nat.add_zero] at a b c
    rw [c, b, a]
  have r0 : x0 * (y0 + B * Y1) = l00 + B * (l01 + B * (l02 + B * (l03 + B * h03))) := by
    have a := step_row (B := B) (Q := 0) (A := 0) e03
    have b := step_row (B := B) (Q := y3) (A := 0) e02
    have c := step_row (B := B) (Q := y2 + B * y3) (A := 0) e01
    have d := step_row (B := B) (Q := y1 + B * (y2 + B * y3)) (A := 0) e00
    rw [hY1]
    simp only [Nat.mul_zero, Nat.add_zero, Nat.zero_add] at a b c d
    rw [d, c, b, a]
  rw [← hY1]
  generalize y0 + B * Y1 = Y at *
  -- from the top limb down
  have t2 : (x2 + B * x3) * Y + (l11 + B * l12) = l20 + B * (l30 + B * (x3 * Y1 + h30 + (x2 * Y2 + h21))) := by
    rw [Nat.add_mul, Nat.mul_assoc]
    have : B * (x3 * Y + l21) = B * (l30 + B * (x3 * Y1 + h30)) := by rw [r3]
    generalize x3 * Y1 + h30 = K at this ⊢
    generalize x2 * Y2 + h21 = K' at r2 ⊢
    simp only [Nat.mul_add] at this r2 ⊢
    omega
  have t1 : (x1 + B * (x2 + B * x3)) * Y + (l01 + B * (l02 + B * l03)) = l10 + B * (l20 + B * (l30 + B * (x3 * Y1 + h30 + (x2 * Y2 + h21) + (x1 * y3 + h12)))) := by
    rw [Nat.add_mul, Nat.mul_assoc]
    have : B * ((x2 + B * x3) * Y + (l11 + B * l12)) = B * (l20 + B * (l30 + B * (x3 * Y1 + h30 + (x2 * Y2 + h21)))) := by rw [t2]
    generalize x3 * Y1 + h30 + (x2 * Y2 + h21) = K at this ⊢
    simp only [Nat.mul_add] at this r1 ⊢
    omega
  refine ⟨x3 * Y1 + h30 + (x2 * Y2 + h21) + (x1 * y3 + h12) + h03, ?_⟩
  rw [Nat.add_mul, Nat.mul_assoc]
  have : B * ((x1 + B * (x2 + B * x3)) * Y + (l01 + B * (l02 + B * l03))) = B * (l10 + B * (l20 + B * (l30 + B * (x3 * Y1 + h30 + (x2 * Y2 + h21) + (x1 * y3 + h12))))) := by rw [t1]
  generalize x3 * Y1 + h30 + (x2 * Y2 + h21) + (x1 * y3 + h12) = K at this ⊢
  simp only [Nat.mul_add] at this r0 ⊢
  omega

/-- All eight limbs of a product. -/
theorem mul8 {x0 x1 x2 x3 y0 y1 y2 y3 l00 l01 l02 l03 l10 l11 l12 l13 l20 l21 l22 l23 l30 l31 l32 l33 h00 h01 h02 h03 h10 h11 h12 h13 h20 h21 h22 h23 h30 h31 h32 h33 : Nat}
    (e00 : x0 * y0 + 0 + 0 = l00 + B * h00) (e01 : x0 * y1 + 0 + h00 = l01 + B * h01) (e02 : x0 * y2 + 0 + h01 = l02 + B * h02) (e03 : x0 * y3 + 0 + h02 = l03 + B * h03)
    (e10 : x1 * y0 + l01 + 0 = l10 + B * h10) (e11 : x1 * y1 + l02 + h10 = l11 + B * h11) (e12 : x1 * y2 + l03 + h11 = l12 + B * h12) (e13 : x1 * y3 + h03 + h12 = l13 + B * h13)
    (e20 : x2 * y0 + l11 + 0 = l20 + B * h20) (e21 : x2 * y1 + l12 + h20 = l21 + B * h21) (e22 : x2 * y2 + l13 + h21 = l22 + B * h22) (e23 : x2 * y3 + h13 + h22 = l23 + B * h23)
    (e30 : x3 * y0 + l21 + 0 = l30 + B * h30) (e31 : x3 * y1 + l22 + h30 = l31 + B * h31) (e32 : x3 * y2 + l23 + h31 = l32 + B * h32) (e33 : x3 * y3 + h23 + h32 = l33 + B * h33) :
    (x0 + B * (x1 + B * (x2 + B * x3))) * (y0 + B * (y1 + B * (y2 + B * y3))) = l00 + B * (l10 + B * (l20 + B * (l30 + B * (l31 + B * (l32 + B * (l33 + B * h33)))))) := by
  have row : ∀ {x a0 a1 a2 a3 m0 m1 m2 m3 g0 g1 g2 g3 : Nat}, x * y0 + a0 + 0 = m0 + B * g0 → x * y1 + a1 + g0 = m1 + B * g1 → x * y2 + a2 + g1 = m2 + B * g2 → x * y3 + a3 + g2 = m3 + B * g3 →
      x * (y0 + B * (y1 + B * (y2 + B * y3))) + (a0 + B * (a1 + B * (a2 + B * a3))) = m0 + B * (m1 + B * (m2 + B * (m3 + B * g3))) := by
    intro x a0 a1 a2 a3 m0 m1 m2 m3 g0 g1 g2 g3 f0 f1 f2 f3
    have a := step_row (B := B) (Q := 0) (A := 0) f3
    have b := step_row (B := B) (Q := y3) (A := a3) f2
    have c := step_row (B := B) (Q := y2 + B * y3) (A := a2 + B * a3) f1
    have d := step_row (B := B) (Q := y1 + B * (y2 + B * y3)) (A := a1 + B * (a2 + B * a3)) f0
    simp only [Nat.mul_zero, Nat.add_zero, Nat.zero_add] at a b c d
    rw [d, c, b, a]
  have r0 := @row x0 0 0 0 0 l00 l01 l02 l03 h00 h01 h02 h03 e00 e01 e02 e03
  have r1 := row e10 e11 e12 e13
  have r2 := row e20 e21 e22 e23
  have r3 := row e30 e31 e32 e33
  simp only [Nat.mul_zero, Nat.add_zero] at r0
  generalize y0 + B * (y1 + B * (y2 + B * y3)) = Y at *
  have t2 : (x2 + B * x3) * Y + (l11 + B * (l12 + B * (l13 + B * h13))) = l20 + B * (l30 + B * (l31 + B * (l32 + B * (l33 + B * h33)))) := by
    rw [Nat.add_mul, Nat.mul_assoc, ← r3, Nat.mul_add B (x3 * Y)]
    omega
  have t1 : (x1 + B * (x2 + B * x3)) * Y + (l01 + B * (l02 + B * (l03 + B * h03))) = l10 + B * (l20 + B * (l30 + B * (l31 + B * (l32 + B * (l33 + B * h33))))) := by
    rw [Nat.add_mul, Nat.mul_assoc, ← t2, Nat.mul_add B (_ * Y)]
    omega
  rw [Nat.add_mul, Nat.mul_assoc, ← t1, Nat.mul_add B (_ * Y)]
  omega

end Gen

end Go.Proofs.Ytpnijncoldihfaa
