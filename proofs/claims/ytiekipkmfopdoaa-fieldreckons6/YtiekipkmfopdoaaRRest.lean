/-
  The document's Mod: rests, bit by bit.
-/
import Derived.Test.YtiekipkmfopdoaaRTwi
namespace Go.Proofs.Ytiekipkmfopdoaa
open Go.RowKit Go.Shelf

theorem bit_at (A q r : Nat) (hr : r < 64) : limb A q / 2 ^ r % 2 = A / 2 ^ (64 * q + r) % 2 := by
  unfold limb
  rw [Nat.pow_add, ← Nat.div_div_eq_div_mul, Nat.pow_mul, show (2 : Nat) ^ 64 = 18446744073709551616 by decide]
  generalize A / 18446744073709551616 ^ q = y
  have e : (18446744073709551616 : Nat) = 2 ^ r * (2 * 2 ^ (63 - r)) := by
    rw [show (2 : Nat) * 2 ^ (63 - r) = 2 ^ (63 - r + 1) by rw [Nat.pow_succ, Nat.mul_comm], ← Nat.pow_add, show r + (63 - r + 1) = 64 by omega]
  rw [e, Nat.mod_mul_right_div_self, Nat.mod_mul_right_mod]

theorem mod_bit (A M p : Nat) : (2 * (A / 2 ^ (p + 1) % M) + A / 2 ^ p % 2) % M = A / 2 ^ p % M := by
  have e : A / 2 ^ p = 2 * (A / 2 ^ (p + 1)) + A / 2 ^ p % 2 := by
    rw [Nat.pow_succ, ← Nat.div_div_eq_div_mul]
    omega
  conv => rhs; rw [e]
  rw [Nat.add_mod, Nat.mul_mod, Nat.mod_mod, ← Nat.mul_mod, ← Nat.add_mod]

theorem and_one (y : Nat) (hy : y < 18446744073709551616) : bits .and .u64 (y : Int) 1 = ((y % 2 : Nat) : Int) := by
  have h := bits_and_u64_nat y 1 hy (by omega)
  rw [Nat.and_one_is_mod] at h
  exact h

set_option maxHeartbeats 2000000 in
set_option maxRecDepth 100000 in
theorem rmod_any {na n : Nat} (hna : na ≤ 17) (hn : n ≤ 8) (A M : Nat) (hA : A < 18446744073709551616 ^ na) (h0 : 0 < M) (hM : M < 18446744073709551616 ^ n) (w : World) (u m : Value) (hu : LW w u na (limb A)) (hm : LW w m n (limb M)) :
    Calls Try.prog 31 #[u, m] w fun r w' => (∃ v', r = .returned v' ∧ LW w' v' n (limb (A % M))) ∧ Below w.heap.size w w' := by
  obtain ⟨g1, o1, c1, rfl, _, _, l1, h1⟩ := hu.ex
  have HM := hideP hm
  obtain ⟨g2, o2, c2, rfl, _, _, l2, h2⟩ := hm.ex
  have H1 := hideP h1
  have HH : Hid (A < 18446744073709551616 ^ na ∧ 0 < M ∧ M < 18446744073709551616 ^ n ∧ n ≤ 8 ∧ na ≤ 17) := ⟨hA, h0, hM, hn, hna⟩
  have hmk := make_words w n (by omega)
  have ew : IntKind.i64.wrap (n : Int) = (n : Int) := by rw [IntKind.wrap_i64]; omega
  have ew2 : IntKind.i64.wrap ((na : Int) - 1) = (na : Int) - 1 := by rw [IntKind.wrap_i64]; omega
  clear h1 h2 hu hm hA h0 hM hn hna
  go_enter Try.func31, Try.ntmps31
  go_wp2_with fail
  refine at_world (fun W0 hW0 => ?_)
  have hD : W0.heap[w.heap.size]? = some (.cells (cw n (fun _ => 0)) 23 (0, 0)) := by
    rw [hW0]
    exact heap_new _ _
  have HBW : Hid (Below w.heap.size w W0) := by
    show Below _ _ _
    rw [hW0]
    repeat first | exact Below.refl _ _ | (refine Below.alloc ?_ (by simp <;> omega) _)
  have HI0 : Hid (LW W0 (.slice (some ⟨w.heap.size, 0, none⟩) n n) n (limb (A / 18446744073709551616 ^ na % M))) := by
    have := HH.out.2.2.2.1
    rw [Nat.div_eq_of_lt HH.out.1, Nat.zero_mod]
    exact (row_LW (by omega) hD).congr (fun j _ => by simp [limb])
  clear hW0 hD hmk
  go_loopw [5, 6] (fun o i wr => ∃ k : Nat, k ≤ na ∧ i = .int .i64 ((k : Int) - 1) ∧ LW wr o n (limb (A / 18446744073709551616 ^ k % M)) ∧ Below w.heap.size w wr) (fun _ i _ => (intOf i + 1).toNat)
  case atStart => exact ⟨na, Nat.le_refl _, rfl, HI0.out, HBW.out⟩
  case round =>
    obtain ⟨k, hk, rfl, hL, hb⟩ := hrel
    by_cases hz : 0 < k
    · have e1 : (k : Int) - 1 = ((k - 1 : Nat) : Int) := by omega
      have hna := HH.out.2.2.2.2
      have e2 : IntKind.i64.wrap (((k - 1 : Nat) : Int) - 1) = ((k - 1 : Nat) : Int) - 1 := by rw [IntKind.wrap_i64]; omega
      have g3 : ((k - 1 : Nat) : Int) < na := by omega
      have HKS : Hid (k - 1 ≤ na ∧ 0 < k ∧ k ≤ na) := ⟨by omega, hz, hk⟩
      have HL : Hid (LW wr u5 n (limb (A / 2 ^ (64 * (k - 1) + 64) % M))) := by
        show LW _ _ _ _
        rw [show 64 * (k - 1) + 64 = 64 * k by omega, Nat.pow_mul, show (2 : Nat) ^ 64 = 18446744073709551616 by decide]
        exact hL
      have HB := hideP hb
      rw [e1]
      clear hb hL hk hz e1 hna
      go_wp2_with fail
      rename World => wA
      go_loopw [5, 7] (fun o kk wr => ∃ j : Nat, j ≤ 64 ∧ kk = .int .i64 ((j : Int) - 1) ∧ LW wr o n (limb (A / 2 ^ (64 * (k - 1) + j) % M)) ∧ Below w.heap.size w wr) (fun _ kk _ => (intOf kk + 1).toNat)
      case atStart => exact ⟨64, Nat.le_refl _, rfl, HL.out, HB.out⟩
      case round =>
        obtain ⟨j, hj, rfl, hL, hb⟩ := hrel
        by_cases hz : 0 < j
        · have e1 : (j : Int) - 1 = ((j - 1 : Nat) : Int) := by omega
          have hk1 : k - 1 < na := by have := HKS.out; omega
          have ca : wr.cell? ⟨g1, o1 + (k - 1), none⟩ = some (.int .u64 (limb A (k - 1))) := (hb.cell (p := ⟨g1, o1 + (k - 1), none⟩) l1).trans (H1.out _ hk1)
          have hlx := limb_lt A (k - 1)
          have hbt : limb A (k - 1) / 2 ^ (j - 1) % 2 ≤ 1 := by omega
          have hdl : limb A (k - 1) / 2 ^ (j - 1) < 18446744073709551616 := Nat.lt_of_le_of_lt (Nat.div_le_self _ _) hlx
          have hand : bits .and .u64 ((limb A (k - 1) : Int) / 2 ^ (j - 1)) 1 = ((limb A (k - 1) / 2 ^ (j - 1) % 2 : Nat) : Int) := by
            rw [← and_one _ hdl]
            congr 1
          have C := hideP (rtwice_any HH.out.2.2.2.1 (A / 2 ^ (64 * (k - 1) + j) % M) (limb A (k - 1) / 2 ^ (j - 1) % 2) M (Nat.mod_lt _ HH.out.2.1) hbt HH.out.2.2.1 wr _ _ hL (HM.out.moved hb))
          have HE : Hid ((2 * (A / 2 ^ (64 * (k - 1) + j) % M) + limb A (k - 1) / 2 ^ (j - 1) % 2) % M = A / 2 ^ (64 * (k - 1) + (j - 1)) % M) := by
            show _ = _
            rw [bit_at A (k - 1) (j - 1) (by omega), ← mod_bit A M (64 * (k - 1) + (j - 1)), show 64 * (k - 1) + (j - 1) + 1 = 64 * (k - 1) + j by omega]
          rw [HE.out] at C
          have HJS : Hid (j - 1 ≤ 64 ∧ 0 < j) := ⟨by omega, hz⟩
          have g4 : ((j - 1 : Nat) : Int) < 64 := by omega
          have e3 : IntKind.i64.wrap (((j - 1 : Nat) : Int) - 1) = ((j - 1 : Nat) : Int) - 1 := by rw [IntKind.wrap_i64]; omega
          have e5 : IntKind.u64.wrap ((j - 1 : Nat) : Int) = ((j - 1 : Nat) : Int) := by rw [IntKind.wrap_u64]; omega
          have HB2 := hideP hb
          rw [e1]
          clear hb hL hj hz e1 hk1 hbt hdl HE
          generalize limb A (k - 1) / 2 ^ (j - 1) % 2 = bt at *
          generalize limb A (k - 1) = lv at *
          generalize hj1 : j - 1 = j1 at *
          generalize hkk : k - 1 = k1 at *
          go_wp2_with fail
          refine C.out.mono ?_
          rintro r w3 ⟨⟨v3, rfl, hL3⟩, hb3⟩
          have HL3 := hideP hL3
          have HB3 := hideP (HB2.out.trans (hb3.mono HB2.out.size))
          clear hL3 hb3
          go_wp2_with fail
          refine ⟨⟨j1, HJS.out.1, by go_num, HL3.out, HB3.out⟩, ?_⟩
          have := HJS.out.2
          simp [intOf] <;> omega
        · have hj0 : j = 0 := by omega
          subst hj0
          have HL2 : Hid (LW wr u5 n (limb (A / 18446744073709551616 ^ (k - 1) % M))) := by
            show LW _ _ _ _
            rw [Nat.add_zero, Nat.pow_mul, show (2 : Nat) ^ 64 = 18446744073709551616 by decide] at hL
            exact hL
          have HB2 := hideP hb
          clear hL hb hj hz
          simp only [Int.natCast_zero, Int.zero_sub]
          generalize hkk : k - 1 = k1 at *
          go_wp2_with fail
          refine ⟨⟨k1, HKS.out.1, by go_num, HL2.out, HB2.out⟩, ?_⟩
          have := HKS.out.2
          simp [intOf] <;> omega
    · have hk0 : k = 0 := by omega
      subst hk0
      rw [Nat.pow_zero, Nat.div_one] at hL
      have HL := hideP hL
      have HB := hideP hb
      clear hL hb hk hz
      simp only [Int.natCast_zero, Int.zero_sub]
      go_wp2
      go_ret
      exact ⟨⟨_, rfl, HL.out⟩, HB.out⟩

end Go.Proofs.Ytiekipkmfopdoaa
