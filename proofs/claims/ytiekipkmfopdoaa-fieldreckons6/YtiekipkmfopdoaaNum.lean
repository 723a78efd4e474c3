/-
  Numbers are compared by their limbs; an append that runs.
-/
import Derived.Test.YtiekipkmfopdoaaEnds
namespace Go.Proofs.Ytiekipkmfopdoaa
open Go.RowKit Go.Shelf

theorem wpList_append_run {ops : Array Oper} {rest : List Oper} {o : Oper} {a : Act} {w : World} {Q : Exit → Act → World → Prop} (hgd : o.guard = none) (s x : Operand) (t : TypeId)
    (ho : o.op = .call { callee := .builtin .append, args := #[s, x], argTypes := #[t, t] }) {ty : TypeId} (hty : o.type = ty) {vs vx v' : Value} {w' : World} (hs : a.eval s = vs) (hx : a.eval x = vx)
    (hrun : (Builtin.append_ #[t, t] ty #[vs, vx]).run Try.prog w = .ok v' w') (h : wpList Try.prog ops Q rest (a.put o.dst v') w') :
    wpList Try.prog ops Q (o :: rest) a w := by
  refine wpList_plain hgd fun K hK => ?_
  unfold Oper.wp
  subst hty
  simp [execOp, ho, resolve, invoke, builtin, hs, hx, hrun]
  exact hK _ _ h

theorem div_limb (N k : Nat) : N / 18446744073709551616 ^ k = N / 18446744073709551616 ^ (k + 1) * 18446744073709551616 + limb N k := by
  unfold limb
  rw [Nat.pow_succ, ← Nat.div_div_eq_div_mul, Nat.mul_comm]
  exact (Nat.div_add_mod _ _).symm

theorem high_eq {X Y m : Nat} (hX : X < 18446744073709551616 ^ m) (hY : Y < 18446744073709551616 ^ m) : ∀ (d k : Nat), k + d = m → (∀ j, k ≤ j → j < m → limb X j = limb Y j) → X / 18446744073709551616 ^ k = Y / 18446744073709551616 ^ k
  | 0, k, h, _ => by
    obtain rfl : k = m := by omega
    rw [Nat.div_eq_of_lt hX, Nat.div_eq_of_lt hY]
  | d + 1, k, h, he => by
    rw [div_limb X k, div_limb Y k, high_eq hX hY d (k + 1) (by omega) (fun j h1 h2 => he j (by omega) h2), he k (Nat.le_refl _) (by omega)]

theorem less_at {X Y m k : Nat} (hX : X < 18446744073709551616 ^ m) (hY : Y < 18446744073709551616 ^ m) (hk : k < m) (he : ∀ j, k + 1 ≤ j → j < m → limb X j = limb Y j) (hne : limb X k ≠ limb Y k) : decide (limb X k < limb Y k) = decide (X < Y) := by
  have h1 := high_eq hX hY (m - (k + 1)) (k + 1) (by omega) he
  have hx := div_limb X k
  have hy := div_limb Y k
  rw [h1] at hx
  have hP : 0 < 18446744073709551616 ^ k := Nat.pow_pos (by decide)
  generalize 18446744073709551616 ^ k = P at *
  generalize Y / 18446744073709551616 ^ (k + 1) * 18446744073709551616 = Q at *
  generalize limb X k = a at *
  generalize limb Y k = b at *
  have ex := Nat.div_add_mod X P
  have ey := Nat.div_add_mod Y P
  have lx := Nat.mod_lt X hP
  have ly := Nat.mod_lt Y hP
  rw [hx] at ex
  rw [hy] at ey
  rw [decide_eq_decide]
  constructor
  · intro h
    have := Nat.mul_le_mul_left P (show Q + a + 1 ≤ Q + b by omega)
    rw [Nat.mul_add, Nat.mul_one] at this
    omega
  · intro h
    apply Nat.lt_of_not_le
    intro hc
    have := Nat.mul_le_mul_left P (show Q + b + 1 ≤ Q + a by omega)
    rw [Nat.mul_add, Nat.mul_one] at this
    omega

end Go.Proofs.Ytiekipkmfopdoaa
