/-
  The document's sums, differences and products of words.
-/
import Derived.Test.YtpnijncoldihfaaBitsC03
import Derived.Test.YtpnijncoldihfaaBitsC15
import Derived.Test.YtpnijncoldihfaaBitsC17
namespace Go.Proofs.Ytpnijncoldihfaa
open Go.RowKit Go.Shelf

theorem xor_ones (x : Nat) (h : x < 18446744073709551616) : 18446744073709551615 ^^^ x = 18446744073709551615 - x := by
  have e : (18446744073709551615 : Nat) = 2 ^ 64 - 1 := by decide
  have h64 : x < 2 ^ 64 := by simpa using h
  rw [show 18446744073709551615 - x = 2 ^ 64 - (x + 1) by omega, e]
  apply Nat.eq_of_testBit_eq
  intro i
  rw [Nat.testBit_xor, Nat.testBit_two_pow_sub_one, Nat.testBit_two_pow_sub_succ h64]
  by_cases hi : i < 64
  · simp [hi]
  · have : x.testBit i = false := Nat.testBit_lt_two_pow (Nat.lt_of_lt_of_le h64 (Nat.pow_le_pow_right (by omega) (by omega)))
    simp [hi, this]

theorem not_limb (x : Nat) (h : x < 18446744073709551616) : bits .xor .u64 IntKind.u64.max (x : Int) = ((18446744073709551615 - x : Nat) : Int) := by
  have hx := bits_xor_u64_nat 18446744073709551615 x (by omega) h
  rw [xor_ones x h] at hx
  exact hx

set_option maxHeartbeats 1000000 in
set_option maxRecDepth 100000 in
theorem not_any (X : Nat) (w : World) : Calls Try.prog 56 #[wv X] w fun e w' => e = .returned (wv (M256 - 1 - X % M256)) ∧ Below w.heap.size w w' := by
  obtain ⟨x0, x1, x2, x3, h0, h1, h2, h3, eX, hX⟩ := wv_limbs X
  have hr : Value.agg #[.int .u64 ((18446744073709551615 - x0 : Nat) : Int), .int .u64 ((18446744073709551615 - x1 : Nat) : Int), .int .u64 ((18446744073709551615 - x2 : Nat) : Int), .int .u64 ((18446744073709551615 - x3 : Nat) : Int)] = wv (M256 - 1 - X % M256) := by
    refine wv_num (by omega) (by omega) (by omega) (by omega) ?_
    rw [Nat.mod_eq_of_lt (by have := M256_pos; omega), eX]
    unfold M256 num
    omega
  rw [hX]
  have n0 := not_limb x0 h0
  have n1 := not_limb x1 h1
  have n2 := not_limb x2 h2
  have n3 := not_limb x3 h3
  have HR := hideP hr
  clear hr eX hX h0 h1 h2 h3
  generalize 18446744073709551615 - x0 = y0 at n0 HR
  generalize 18446744073709551615 - x1 = y1 at n1 HR
  generalize 18446744073709551615 - x2 = y2 at n2 HR
  generalize 18446744073709551615 - x3 = y3 at n3 HR
  go_enter Try.func56, Try.ntmps56
  go_wp2_with fail
  refine wp_loop_rounds 5 ?_
  rw [rounds_succ]
  go_wp2_with fail
  rw [rounds_succ]
  go_wp2_with fail
  rw [rounds_succ]
  go_wp2_with fail
  rw [rounds_succ]
  go_wp2_with fail
  rw [rounds_succ]
  go_wp2
  refine bodyPost_ret (v := .agg #[.int .u64 y0, .int .u64 y1, .int .u64 y2, .int .u64 y3]) (by simp [results, Try.results56, go_sem]) rfl ⟨by rw [HR.out], ?_⟩
  repeat first | exact Below.refl _ _ | apply Below.drew | (refine Below.alloc ?_ (by simp <;> omega) _) | (refine Below.setCell ?_ (by simp <;> omega) _)

end Go.Proofs.Ytpnijncoldihfaa

namespace Go.Proofs.Ytpnijncoldihfaa
open Go.RowKit Go.Shelf

/-- All but the box R is as it was; R is a box of four cells. -/
structure KeepT (t : Nat) (W0 : World) (R : Nat) (V : World) : Prop where
  same : ∀ b, b < W0.heap.size → b ≠ R → V.heap[b]? = W0.heap[b]?
  below : Below R W0 V
  res : ∃ z0 z1 z2 z3, V.heap[R]? = some (.cells #[z0, z1, z2, z3] t (0, 0))

section
variable {t : Nat} {W0 V V' : World} {R : Nat}
theorem KeepT.init {z0 z1 z2 z3 : Value} (h : W0.heap[R]? = some (.cells #[z0, z1, z2, z3] t (0, 0))) : KeepT t W0 R W0.drew :=
  ⟨fun _ _ _ => rfl, (Below.refl _ _).drew, z0, z1, z2, z3, h⟩

theorem KeepT.call (h : KeepT t W0 R V) (hb : Below V.heap.size V V') : KeepT t W0 R V' := by
  obtain ⟨z0, z1, z2, z3, hz⟩ := h.res
  have hs : W0.heap.size ≤ V.heap.size := h.below.size
  exact ⟨fun b h1 h2 => (hb.block b (by omega)).trans (h.same b h1 h2), h.below.trans (hb.mono (Nat.le_of_lt (lt_of_block hz))), z0, z1, z2, z3, (hb.block R (lt_of_block hz)).trans hz⟩

theorem KeepT.store (h : KeepT t W0 R V) (z0 z1 z2 z3 : Value) : KeepT t W0 R ((((V.setCell ⟨R, 0, none⟩ z0).setCell ⟨R, 1, none⟩ z1).setCell ⟨R, 2, none⟩ z2).setCell ⟨R, 3, none⟩ z3) := by
  obtain ⟨y0, y1, y2, y3, hz⟩ := h.res
  exact ⟨fun b h1 h2 => (other4 h2).trans (h.same b h1 h2), below_stored4 h.below (Nat.le_refl _), z0, z1, z2, z3, stored4 hz⟩

theorem KeepT.cells (h : KeepT t W0 R V) {b t' : Nat} {u0 u1 u2 u3 : Value} (hb : W0.heap[b]? = some (.cells #[u0, u1, u2, u3] t' (0, 0))) (hne : b ≠ R) :
    V.cell? ⟨b, 0, none⟩ = some u0 ∧ V.cell? ⟨b, 1, none⟩ = some u1 ∧ V.cell? ⟨b, 2, none⟩ = some u2 ∧ V.cell? ⟨b, 3, none⟩ = some u3 :=
  cells4 ((h.same b (lt_of_block hb) hne).trans hb)

theorem KeepT.room (h : KeepT t W0 R V) : ∃ z0 z1 z2 z3, V.cell? ⟨R, 0, none⟩ = some z0 ∧ V.cell? ⟨R, 1, none⟩ = some z1 ∧ V.cell? ⟨R, 2, none⟩ = some z2 ∧ V.cell? ⟨R, 3, none⟩ = some z3 ∧ ∀ o, V.frozen? ⟨R, o, none⟩ = false := by
  obtain ⟨z0, z1, z2, z3, hz⟩ := h.res
  obtain ⟨a, b, c, d⟩ := cells4 hz
  exact ⟨z0, z1, z2, z3, a, b, c, d, fun o => blk_free hz⟩

end

theorem at_world_q {P : Program} {f : FuncId} {args : Array Value} {w : World} {Q : Ending → World → Prop} (h : ∀ W0, W0 = w → Calls P f args W0 Q) : Calls P f args w Q := h w rfl

set_option maxHeartbeats 1000000 in
set_option maxRecDepth 100000 in
theorem refNot_any (X : Nat) (w : World) : Calls Try.prog 57 #[wv X] w fun e w' => e = .returned (wv (M256 - 1 - X % M256)) ∧ Below w.heap.size w w' := by
  obtain ⟨x0, x1, x2, x3, h0, h1, h2, h3, eX, hX⟩ := wv_limbs X
  have hr : Value.agg #[.int .u64 ((18446744073709551615 - x0 : Nat) : Int), .int .u64 ((18446744073709551615 - x1 : Nat) : Int), .int .u64 ((18446744073709551615 - x2 : Nat) : Int), .int .u64 ((18446744073709551615 - x3 : Nat) : Int)] = wv (M256 - 1 - X % M256) := by
    refine wv_num (by omega) (by omega) (by omega) (by omega) ?_
    rw [Nat.mod_eq_of_lt (by have := M256_pos; omega), eX]
    unfold M256 num
    omega
  rw [hX]
  have n0 := not_limb x0 h0
  have n1 := not_limb x1 h1
  have n2 := not_limb x2 h2
  have n3 := not_limb x3 h3
  have HR := hideP hr
  clear hr eX hX h0 h1 h2 h3
  generalize 18446744073709551615 - x0 = y0 at n0 HR
  generalize 18446744073709551615 - x1 = y1 at n1 HR
  generalize 18446744073709551615 - x2 = y2 at n2 HR
  generalize 18446744073709551615 - x3 = y3 at n3 HR
  go_enter Try.func57, Try.ntmps57
  go_wp2_with fail
  refine wp_loop_rounds 5 ?_
  rw [rounds_succ]
  go_wp2_with fail
  rw [rounds_succ]
  go_wp2_with fail
  rw [rounds_succ]
  go_wp2_with fail
  rw [rounds_succ]
  go_wp2_with fail
  rw [rounds_succ]
  go_wp2
  refine bodyPost_ret (v := .agg #[.int .u64 y0, .int .u64 y1, .int .u64 y2, .int .u64 y3]) (by simp [results, Try.results57, go_sem]) rfl ⟨by rw [HR.out], ?_⟩
  repeat first | exact Below.refl _ _ | apply Below.drew | (refine Below.alloc ?_ (by simp <;> omega) _) | (refine Below.setCell ?_ (by simp <;> omega) _)

set_option maxRecDepth 100000 in
theorem refOf_any (n : Nat) (hn : n < 18446744073709551616) (w : World) : Calls Try.prog 22 #[.int .u64 n] w fun e w' => e = .returned (wv n) ∧ Below w.heap.size w w' := by
  have hr : Value.agg #[.int .u64 (n : Int), .int .u64 ((0 : Nat) : Int), .int .u64 ((0 : Nat) : Int), .int .u64 ((0 : Nat) : Int)] = wv n := by
    refine wv_num hn (by omega) (by omega) (by omega) ?_
    rw [Nat.mod_eq_of_lt (by unfold M256; omega)]
    unfold num
    omega
  have HR := hideP hr
  clear hr hn
  go_enter Try.func22, Try.ntmps22
  go_wp2
  refine bodyPost_ret (v := .agg #[.int .u64 (n : Int), .int .u64 0, .int .u64 0, .int .u64 0]) (by simp [results, Try.results22, go_sem]) rfl ⟨by rw [← HR.out]; rfl, ?_⟩
  repeat first | exact Below.refl _ _ | apply Below.drew | (refine Below.alloc ?_ (by simp <;> omega) _) | (refine Below.setCell ?_ (by simp <;> omega) _)

end Go.Proofs.Ytpnijncoldihfaa
