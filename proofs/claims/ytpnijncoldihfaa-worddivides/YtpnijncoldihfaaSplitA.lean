/-
  The document's bits of long numbers.
-/
import Derived.Test.YtpnijncoldihfaaSplitN
import Derived.Test.YtpnijncoldihfaaRefA
namespace Go.Proofs.Ytpnijncoldihfaa
open Go.RowKit Go.Shelf

set_option maxHeartbeats 2000000 in
set_option maxRecDepth 100000 in
theorem zero_any (X : Nat) (w : World) : Calls Try.prog 94 #[wv X] w fun e w' => e = .returned (.bool (decide (X % M256 = 0))) ∧ Below w.heap.size w w' := by
  obtain ⟨x0, x1, x2, x3, h0, h1, h2, h3, e, hx⟩ := wv_limbs X
  have hz : decide (X % M256 = 0) = (decide (x0 = 0) && decide (x1 = 0) && decide (x2 = 0) && decide (x3 = 0)) := by
    rw [e]
    unfold num
    by_cases a : x0 = 0 <;> by_cases b : x1 = 0 <;> by_cases c : x2 = 0 <;> by_cases d : x3 = 0 <;> simp [a, b, c, d] <;> omega
  rw [hx, hz]
  clear h0 h1 h2 h3 e hx hz
  by_cases a : x0 = 0
  · subst a
    by_cases b : x1 = 0
    · subst b
      by_cases c : x2 = 0
      · subst c
        by_cases d : x3 = 0
        · subst d
          go_enter Try.func94, Try.ntmps94
          go_wp2
          go_ret
          exact ⟨rfl, (Below.refl _ _).alloc (Nat.le_refl _) _⟩
        · have d' : ((x3 : Int) == 0) = false := by simp; omega
          go_enter Try.func94, Try.ntmps94
          go_wp2
          go_ret
          exact ⟨by simp [d], (Below.refl _ _).alloc (Nat.le_refl _) _⟩
      · have c' : ((x2 : Int) == 0) = false := by simp; omega
        go_enter Try.func94, Try.ntmps94
        go_wp2
        go_ret
        exact ⟨by simp [c], (Below.refl _ _).alloc (Nat.le_refl _) _⟩
    · have b' : ((x1 : Int) == 0) = false := by simp; omega
      go_enter Try.func94, Try.ntmps94
      go_wp2
      go_ret
      exact ⟨by simp [b], (Below.refl _ _).alloc (Nat.le_refl _) _⟩
  · have a' : ((x0 : Int) == 0) = false := by simp; omega
    go_enter Try.func94, Try.ntmps94
    go_wp2
    go_ret
    exact ⟨by simp [a], (Below.refl _ _).alloc (Nat.le_refl _) _⟩

set_option maxHeartbeats 2000000 in
set_option maxRecDepth 100000 in
theorem bit_any (A i : Nat) (hi : i < 544) (w : World) : Calls Try.prog 103 #[lv A, .int .i64 i] w fun e w' => e = .returned (.int .u64 (bt A i)) ∧ Below w.heap.size w w' := by
  have cA := blk_cell (heap_new w (.cells (c17 (dg A)) 76 (0, 0))) (get17 (dg A) (show i / 32 < 17 by omega))
  have hb : dg A (i / 32) / 2 ^ (i % 32) % 2 = bt A i := dg_bit A i
  have HB : Hid ((((dg A (i / 32) / 2 ^ (i % 32) % 2 : Nat)) : Int) = ((bt A i : Nat) : Int)) := by rw [hb]; show _ = _; rfl
  clear hb
  have e1 : ((i : Int)).tdiv 32 = ((i / 32 : Nat) : Int) := by rw [Int.tdiv_eq_ediv_of_nonneg (by omega)]; omega
  have e1' : IntKind.i64.wrap ((i / 32 : Nat) : Int) = ((i / 32 : Nat) : Int) := by rw [IntKind.wrap_i64]; omega
  have e2 : ((i : Int)).tmod 32 = ((i % 32 : Nat) : Int) := by rw [Int.tmod_eq_emod_of_nonneg (by omega)]; omega
  have e2' : IntKind.i64.wrap ((i % 32 : Nat) : Int) = ((i % 32 : Nat) : Int) := by rw [IntKind.wrap_i64]; omega
  have e3 : IntKind.u64.wrap ((i % 32 : Nat) : Int) = ((i % 32 : Nat) : Int) := by rw [IntKind.wrap_u64]; omega
  have g1 : ((i / 32 : Nat) : Int) < 17 := by omega
  have g2 : ((i % 32 : Nat) : Int) < 64 := by omega
  unfold lv
  generalize c17 (dg A) = ca at *
  generalize dg A (i / 32) = da at *
  generalize i / 32 = q at *
  generalize i % 32 = r at *
  clear hi
  go_enter Try.func103, Try.ntmps103
  go_wp2_with fail
  have hv : ((da : Int) / 2 ^ r).tmod 2 = ((da / 2 ^ r % 2 : Nat) : Int) := by
    have h : ((da : Int) / 2 ^ r) = ((da / 2 ^ r : Nat) : Int) := by simp
    rw [h, Int.tmod_eq_emod_of_nonneg (Int.natCast_nonneg _)]
    rfl
  go_ret
  exact ⟨by rw [hv, HB.out]; rfl, (Below.refl _ _).alloc (Nat.le_refl _) _⟩
end Go.Proofs.Ytpnijncoldihfaa
