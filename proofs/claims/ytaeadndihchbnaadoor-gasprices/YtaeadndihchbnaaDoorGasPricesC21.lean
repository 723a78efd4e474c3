/-
  What a call hands on; what the bytes of an exponent cost.
-/
import Derived.Test.YtaeadndihchbnaaDoorGasPricesC14
namespace Go.Proofs.YtaeadndihchbnaaDoor
open Go.RowKit Go.Shelf

/-- How many bytes a word has, without leading noughts. -/
theorem lb_of_bits {X n : Nat} (h1 : n ≤ 256) (h2 : X % M256 < 2 ^ n) (h3 : 0 < n → 2 ^ (n - 1) ≤ X % M256) : LB X ((n + 7) / 8) where
  le := by omega
  lt := Nat.lt_of_lt_of_le h2 (Nat.pow_le_pow_right (by omega) (by omega))
  ge := fun h => Nat.le_trans (Nat.pow_le_pow_right (by omega) (by omega)) (h3 (by omega))

theorem lb_same {X m n : Nat} (hm : LB X m) (hn : LB X n) : m = n := by
  rcases Nat.lt_trichotomy m n with h | h | h
  · exfalso
    have h1 := hm.lt
    have h2 := hn.ge (by omega)
    have h3 : 2 ^ (8 * m) ≤ 2 ^ (8 * (n - 1)) := Nat.pow_le_pow_right (by omega) (by omega)
    omega
  · exact h
  · exfalso
    have h1 := hn.lt
    have h2 := hm.ge (by omega)
    have h3 : 2 ^ (8 * n) ≤ 2 ^ (8 * (m - 1)) := Nat.pow_le_pow_right (by omega) (by omega)
    omega

set_option maxHeartbeats 2000000 in
set_option maxRecDepth 100000 in
theorem exp_any (X : Nat) (w : World) : Calls Tryd.prog 28 #[wv X] w fun e w' => (∃ n : Nat, e = .returned (.int .u64 (50 * n : Nat)) ∧ LB X n) ∧ Below w.heap.size w w' := by
  obtain ⟨x0, x1, x2, x3, hX⟩ := wv_form X
  have hc := fun W => bits_any X W
  rw [hX] at hc ⊢
  have HC := hideP hc
  clear hc hX
  go_enter Tryd.func28, Tryd.ntmps28
  go_wp2_with fail
  refine at_world_q (fun W0 hW0 => ?_)
  obtain ⟨HBx, HBW⟩ := box1 hW0
  clear hW0
  replace HBW := hideP HBW
  replace HBx := hideP HBx
  refine (HC.out _).mono ?_
  rintro e V1 ⟨⟨n, rfl, h1, h2, h3⟩, hb⟩
  replace HBx := hideP ((hb.block _ (lt_of_block HBx.out)).trans HBx.out)
  replace HBW := hideP (HBW.out.trans (hb.mono HBW.out.size))
  clear hb
  have hl := hideP (lb_of_bits h1 h2 h3)
  have e1 : IntKind.i64.wrap ((n : Int) + 7) = (n : Int) + 7 := by rw [IntKind.wrap_i64]; omega
  have e2 : ((n : Int) + 7).tdiv 8 = ((n : Int) + 7) / 8 := by rw [Int.tdiv_eq_ediv_of_nonneg (by omega)]
  have e3 : IntKind.i64.wrap (((n : Int) + 7) / 8) = ((n : Int) + 7) / 8 := by rw [IntKind.wrap_i64]; omega
  have e4 : IntKind.u64.wrap (((n : Int) + 7) / 8) = ((n : Int) + 7) / 8 := by rw [IntKind.wrap_u64]; omega
  have e5 : IntKind.u64.wrap (50 * (((n : Int) + 7) / 8)) = 50 * (((n : Int) + 7) / 8) := by rw [IntKind.wrap_u64]; omega
  clear h1 h2 h3
  go_wp2_with fail
  go_ret
  exact ⟨⟨_, congrArg (fun x => Ending.returned (.int .u64 x)) (by omega), hl.out⟩, HBW.out⟩

set_option maxHeartbeats 2000000 in
set_option maxRecDepth 100000 in
theorem rexp_any (X : Nat) (w : World) : Calls Tryd.prog 29 #[wv X] w fun e w' => (∃ n : Nat, e = .returned (.int .u64 (50 * n : Nat)) ∧ LB X n) ∧ Below w.heap.size w w' := by
  obtain ⟨x0, x1, x2, x3, hX⟩ := wv_form X
  have hc := fun W => refLeast_any X W
  rw [hX] at hc ⊢
  have HC := hideP hc
  clear hc hX
  go_enter Tryd.func29, Tryd.ntmps29
  go_wp2_with fail
  refine at_world_q (fun W0 hW0 => ?_)
  obtain ⟨HBx, HBW⟩ := box1 hW0
  clear hW0
  replace HBW := hideP HBW
  replace HBx := hideP HBx
  refine (HC.out _).mono ?_
  rintro e V1 ⟨⟨v, rfl, ⟨n, cap, q, off, rfl, hlb, _, _⟩⟩, hb⟩
  replace HBx := hideP ((hb.block _ (lt_of_block HBx.out)).trans HBx.out)
  replace HBW := hideP (HBW.out.trans (hb.mono HBW.out.size))
  clear hb
  have hn := hlb.le
  have hl := hideP hlb
  have e4 : IntKind.u64.wrap (n : Int) = (n : Int) := by rw [IntKind.wrap_u64]; omega
  have e5 : IntKind.u64.wrap (50 * (n : Int)) = 50 * (n : Int) := by rw [IntKind.wrap_u64]; omega
  clear hlb hn
  go_wp2_with fail
  go_ret
  exact ⟨⟨n, congrArg (fun x => Ending.returned (.int .u64 x)) (by omega), hl.out⟩, HBW.out⟩

end Go.Proofs.YtaeadndihchbnaaDoor
