/-
  The document's Mul: a product of lists of words.
-/
import Derived.Test.YtcbdbnfgnonacaaGreatCurveBn1C03
import Derived.Test.YtcbdbnfgnonacaaGreatCurveBn1C01
namespace Go.Proofs.YtcbdbnfgnonacaaGreat
open Go.RowKit Go.Shelf

theorem bit_at (A q r : Nat) (hr : r < 64) : limb A q / 2 ^ r % 2 = A / 2 ^ (64 * q + r) % 2 := by
  unfold limb
  rw [Nat.pow_add, ← Nat.div_div_eq_div_mul, Nat.pow_mul, show (2 : Nat) ^ 64 = 18446744073709551616 by decide]
  generalize A / 18446744073709551616 ^ q = y
  have e : (18446744073709551616 : Nat) = 2 ^ r * (2 * 2 ^ (63 - r)) := by
    rw [show (2 : Nat) * 2 ^ (63 - r) = 2 ^ (63 - r + 1) by rw [Nat.pow_succ, Nat.mul_comm], ← Nat.pow_add, show r + (63 - r + 1) = 64 by omega]
  rw [e, Nat.mod_mul_right_div_self, Nat.mod_mul_right_mod]

theorem mod_bit (A M p : Nat) : (2 * (A / 2 ^ (p + 1) % M) + A / 2 ^ p % 2) % M = A / 2 ^ p % M := by
  have e : A / 2 ^ p = 2 * (A / 2 ^ (p + 1)) + A / 2 ^ p % 2 := by
    rw [Nat.pow_succ, ← Nat.div_div_eq_div_mul]
    omega
  conv => rhs; rw [e]
  rw [Nat.add_mod, Nat.mul_mod, Nat.mod_mod, ← Nat.mul_mod, ← Nat.add_mod]

theorem and_one (y : Nat) (hy : y < 18446744073709551616) : bits .and .u64 (y : Int) 1 = ((y % 2 : Nat) : Int) := by
  have h := bits_and_u64_nat y 1 hy (by omega)
  rw [Nat.and_one_is_mod] at h
  exact h

set_option maxHeartbeats 2000000 in
set_option maxRecDepth 100000 in
theorem rmod_any {na n : Nat} (hna : na ≤ 17) (hn : n ≤ 8) (A M : Nat) (hA : A < 18446744073709551616 ^ na) (h0 : 0 < M) (hM : M < 18446744073709551616 ^ n) (w : World) (u m : Value) (hu : LW w u na (limb A)) (hm : LW w m n (limb M)) :
    Calls Tryz.prog 163 #[u, m] w fun r w' => (∃ v', r = .returned v' ∧ LW w' v' n (limb (A % M))) ∧ Below w.heap.size w w' := by
  obtain ⟨g1, o1, c1, rfl, _, _, l1, h1⟩ := hu.ex
  have HM := hideP hm
  obtain ⟨g2, o2, c2, rfl, _, _, l2, h2⟩ := hm.ex
  have H1 := hideP h1
  have HH : Hid (A < 18446744073709551616 ^ na ∧ 0 < M ∧ M < 18446744073709551616 ^ n ∧ n ≤ 8 ∧ na ≤ 17) := ⟨hA, h0, hM, hn, hna⟩
  have hmk := make_words w n (by omega)
  have ew : IntKind.i64.wrap (n : Int) = (n : Int) := by rw [IntKind.wrap_i64]; omega
  have ew2 : IntKind.i64.wrap ((na : Int) - 1) = (na : Int) - 1 := by rw [IntKind.wrap_i64]; omega
  clear h1 h2 hu hm hA h0 hM hn hna
  go_enter Tryz.func163, Tryz.ntmps163
  go_wp2_with fail
  refine at_world (fun W0 hW0 => ?_)
  have hD : W0.heap[w.heap.size]? = some (.cells (cw n (fun _ => 0)) 27 (0, 0)) := by
    rw [hW0]
    exact heap_new _ _
  have HBW : Hid (Below w.heap.size w W0) := by
    show Below _ _ _
    rw [hW0]
    repeat first | exact Below.refl _ _ | (refine Below.alloc ?_ (by simp <;> omega) _)
  have HI0 : Hid (LW W0 (.slice (some ⟨w.heap.size, 0, none⟩) n n) n (limb (A / 18446744073709551616 ^ na % M))) := by
    have := HH.out.2.2.2.1
    rw [Nat.div_eq_of_lt HH.out.1, Nat.zero_mod]
    exact (row_LW (by omega) hD).congr (fun j _ => by simp [limb])
  clear hW0 hD hmk
  go_loopw [5, 6] (fun o i wr => ∃ k : Nat, k ≤ na ∧ i = .int .i64 ((k : Int) - 1) ∧ LW wr o n (limb (A / 18446744073709551616 ^ k % M)) ∧ Below w.heap.size w wr) (fun _ i _ => (intOf i + 1).toNat)
  case atStart => exact ⟨na, Nat.le_refl _, rfl, HI0.out, HBW.out⟩
  case round =>
    obtain ⟨k, hk, rfl, hL, hb⟩ := hrel
    by_cases hz : 0 < k
    · have e1 : (k : Int) - 1 = ((k - 1 : Nat) : Int) := by omega
      have hna := HH.out.2.2.2.2
      have e2 : IntKind.i64.wrap (((k - 1 : Nat) : Int) - 1) = ((k - 1 : Nat) : Int) - 1 := by rw [IntKind.wrap_i64]; omega
      have g3 : ((k - 1 : Nat) : Int) < na := by omega
      have HKS : Hid (k - 1 ≤ na ∧ 0 < k ∧ k ≤ na) := ⟨by omega, hz, hk⟩
      have HL : Hid (LW wr u5 n (limb (A / 2 ^ (64 * (k - 1) + 64) % M))) := by
        show LW _ _ _ _
        rw [show 64 * (k - 1) + 64 = 64 * k by omega, Nat.pow_mul, show (2 : Nat) ^ 64 = 18446744073709551616 by decide]
        exact hL
      have HB := hideP hb
      rw [e1]
      clear hb hL hk hz e1 hna
      go_wp2_with fail
      rename World => wA
      go_loopw [5, 7] (fun o kk wr => ∃ j : Nat, j ≤ 64 ∧ kk = .int .i64 ((j : Int) - 1) ∧ LW wr o n (limb (A / 2 ^ (64 * (k - 1) + j) % M)) ∧ Below w.heap.size w wr) (fun _ kk _ => (intOf kk + 1).toNat)
      case atStart => exact ⟨64, Nat.le_refl _, rfl, HL.out, HB.out⟩
      case round =>
        obtain ⟨j, hj, rfl, hL, hb⟩ := hrel
        by_cases hz : 0 < j
        · have e1 : (j : Int) - 1 = ((j - 1 : Nat) : Int) := by omega
          have hk1 : k - 1 < na := by have := HKS.out; omega
          have ca : wr.cell? ⟨g1, o1 + (k - 1), none⟩ = some (.int .u64 (limb A (k - 1))) := (hb.cell (p := ⟨g1, o1 + (k - 1), none⟩) l1).trans (H1.out _ hk1)
          have hlx := limb_lt A (k - 1)
          have hbt : limb A (k - 1) / 2 ^ (j - 1) % 2 ≤ 1 := by omega
          have hdl : limb A (k - 1) / 2 ^ (j - 1) < 18446744073709551616 := Nat.lt_of_le_of_lt (Nat.div_le_self _ _) hlx
          have hand : bits .and .u64 ((limb A (k - 1) : Int) / 2 ^ (j - 1)) 1 = ((limb A (k - 1) / 2 ^ (j - 1) % 2 : Nat) : Int) := by
            rw [← and_one _ hdl]
            congr 1
          have C := hideP (rtwice_any HH.out.2.2.2.1 (A / 2 ^ (64 * (k - 1) + j) % M) (limb A (k - 1) / 2 ^ (j - 1) % 2) M (Nat.mod_lt _ HH.out.2.1) hbt HH.out.2.2.1 wr _ _ hL (HM.out.moved hb))
          have HE : Hid ((2 * (A / 2 ^ (64 * (k - 1) + j) % M) + limb A (k - 1) / 2 ^ (j - 1) % 2) % M = A / 2 ^ (64 * (k - 1) + (j - 1)) % M) := by
            show _ = _
            rw [bit_at A (k - 1) (j - 1) (by omega), ← mod_bit A M (64 * (k - 1) + (j - 1)), show 64 * (k - 1) + (j - 1) + 1 = 64 * (k - 1) + j by omega]
          rw [HE.out] at C
          have HJS : Hid (j - 1 ≤ 64 ∧ 0 < j) := ⟨by omega, hz⟩
          have g4 : ((j - 1 : Nat) : Int) < 64 := by omega
          have e3 : IntKind.i64.wrap (((j - 1 : Nat) : Int) - 1) = ((j - 1 : Nat) : Int) - 1 := by rw [IntKind.wrap_i64]; omega
          have e5 : IntKind.u64.wrap ((j - 1 : Nat) : Int) = ((j - 1 : Nat) : Int) := by rw [IntKind.wrap_u64]; omega
          have HB2 := hideP hb
          rw [e1]
          clear hb hL hj hz e1 hk1 hbt hdl HE
          generalize limb A (k - 1) / 2 ^ (j - 1) % 2 = bt at *
          generalize limb A (k - 1) = lv at *
          generalize hj1 : j - 1 = j1 at *
          generalize hkk : k - 1 = k1 at *
          go_wp2_with fail
          refine C.out.mono ?_
          rintro r w3 ⟨⟨v3, rfl, hL3⟩, hb3⟩
          have HL3 := hideP hL3
          have HB3 := hideP (HB2.out.trans (hb3.mono HB2.out.size))
          clear hL3 hb3
          go_wp2_with fail
          refine ⟨⟨j1, HJS.out.1, by go_num, HL3.out, HB3.out⟩, ?_⟩
          have := HJS.out.2
          simp [intOf] <;> omega
        · have hj0 : j = 0 := by omega
          subst hj0
          have HL2 : Hid (LW wr u5 n (limb (A / 18446744073709551616 ^ (k - 1) % M))) := by
            show LW _ _ _ _
            rw [Nat.add_zero, Nat.pow_mul, show (2 : Nat) ^ 64 = 18446744073709551616 by decide] at hL
            exact hL
          have HB2 := hideP hb
          clear hL hb hj hz
          simp only [Int.natCast_zero, Int.zero_sub]
          generalize hkk : k - 1 = k1 at *
          go_wp2_with fail
          refine ⟨⟨k1, HKS.out.1, by go_num, HL2.out, HB2.out⟩, ?_⟩
          have := HKS.out.2
          simp [intOf] <;> omega
    · have hk0 : k = 0 := by omega
      subst hk0
      rw [Nat.pow_zero, Nat.div_one] at hL
      have HL := hideP hL
      have HB := hideP hb
      clear hL hb hk hz
      simp only [Int.natCast_zero, Int.zero_sub]
      go_wp2
      go_ret
      exact ⟨⟨_, rfl, HL.out⟩, HB.out⟩

end Go.Proofs.YtcbdbnfgnonacaaGreat

namespace Go.Proofs.YtcbdbnfgnonacaaGreat
open Go.RowKit Go.Shelf

theorem half_num (a b : Nat) :
    a % 4294967296 * (b % 4294967296) % 4294967296 + (a % 4294967296 * (b % 4294967296) / 4294967296 + a % 4294967296 * (b / 4294967296) % 4294967296 + a / 4294967296 * (b % 4294967296) % 4294967296) % 4294967296 * 4294967296 +
      18446744073709551616 * (a / 4294967296 * (b / 4294967296) + a % 4294967296 * (b / 4294967296) / 4294967296 + a / 4294967296 * (b % 4294967296) / 4294967296 + (a % 4294967296 * (b % 4294967296) / 4294967296 + a % 4294967296 * (b / 4294967296) % 4294967296 + a / 4294967296 * (b % 4294967296) % 4294967296) / 4294967296) = a * b := by
  have e : a * b = 18446744073709551616 * (a / 4294967296 * (b / 4294967296)) + 4294967296 * (a % 4294967296 * (b / 4294967296)) + 4294967296 * (a / 4294967296 * (b % 4294967296)) + a % 4294967296 * (b % 4294967296) := by
    conv => lhs; rw [← Nat.div_add_mod a 4294967296, ← Nat.div_add_mod b 4294967296]
    generalize a / 4294967296 = p
    generalize a % 4294967296 = q
    generalize b / 4294967296 = r
    generalize b % 4294967296 = s
    grind
  rw [e]
  generalize a / 4294967296 * (b / 4294967296) = p
  generalize a % 4294967296 * (b / 4294967296) = q
  generalize a / 4294967296 * (b % 4294967296) = r
  generalize a % 4294967296 * (b % 4294967296) = s
  omega

theorem or_half (x m : Nat) (hx : x < 4294967296) : bits .or .u64 (x : Int) ((m * 4294967296 % 18446744073709551616 : Nat) : Int) = ((x + m % 4294967296 * 4294967296 : Nat) : Int) := by
  have h := bits_or_u64_nat x (m * 4294967296 % 18446744073709551616) (by omega) (by omega)
  have e0 : m * 4294967296 % 18446744073709551616 = 2 ^ 32 * (m % 4294967296) := by omega
  have e : x ||| m * 4294967296 % 18446744073709551616 = x + m % 4294967296 * 4294967296 := by
    rw [e0, Nat.or_comm, ← Nat.two_pow_add_eq_or_of_lt (show x < 2 ^ 32 by omega)]
    omega
  rw [h, e]

set_option maxHeartbeats 1000000 in
set_option maxRecDepth 100000 in
theorem half_any (a b : Nat) (ha : a < 18446744073709551616) (hb : b < 18446744073709551616) (w : World) :
    Calls Tryz.prog 254 #[.int .u64 a, .int .u64 b] w fun e w' => (∃ h l : Nat, e = .returned (.tuple #[.int .u64 h, .int .u64 l]) ∧ h < 18446744073709551616 ∧ l < 18446744073709551616 ∧ a * b = l + 18446744073709551616 * h) ∧ w = w' := by
  have hnum := half_num a b
  have hle := prod_le ha hb
  have p1 := Lib.half_mul_le (a := a % 4294967296) (b := b % 4294967296) (by omega) (by omega)
  have p2 := Lib.half_mul_le (a := a % 4294967296) (b := b / 4294967296) (by omega) (by omega)
  have p3 := Lib.half_mul_le (a := a / 4294967296) (b := b % 4294967296) (by omega) (by omega)
  have p4 := Lib.half_mul_le (a := a / 4294967296) (b := b / 4294967296) (by omega) (by omega)
  have m1 := M64.maskN a ha
  have m2 := M64.maskN b hb
  have s1 := M64.divN a
  have s2 := M64.divN b
  have w1 : IntKind.u64.wrap (((a % 4294967296 : Nat) : Int) * ((b % 4294967296 : Nat) : Int)) = ((a % 4294967296 * (b % 4294967296) : Nat) : Int) := by rw [M64.mulN, M64.wrapN _ (by omega)]
  have w2 : IntKind.u64.wrap (((a % 4294967296 : Nat) : Int) * ((b / 4294967296 : Nat) : Int)) = ((a % 4294967296 * (b / 4294967296) : Nat) : Int) := by rw [M64.mulN, M64.wrapN _ (by omega)]
  have w3 : IntKind.u64.wrap (((a / 4294967296 : Nat) : Int) * ((b % 4294967296 : Nat) : Int)) = ((a / 4294967296 * (b % 4294967296) : Nat) : Int) := by rw [M64.mulN, M64.wrapN _ (by omega)]
  have w4 : IntKind.u64.wrap (((a / 4294967296 : Nat) : Int) * ((b / 4294967296 : Nat) : Int)) = ((a / 4294967296 * (b / 4294967296) : Nat) : Int) := by rw [M64.mulN, M64.wrapN _ (by omega)]
  generalize a * b = AB at *
  generalize a % 4294967296 * (b % 4294967296) = x at *
  generalize a % 4294967296 * (b / 4294967296) = y at *
  generalize a / 4294967296 * (b % 4294967296) = z at *
  generalize a / 4294967296 * (b / 4294967296) = v at *
  generalize a % 4294967296 = al at *
  generalize a / 4294967296 = ah at *
  generalize b % 4294967296 = bl at *
  generalize b / 4294967296 = bh at *
  have t1 := M64.divN x
  have t2 := M64.maskN y (by omega)
  have t3 := M64.maskN z (by omega)
  have t4 := M64.divN y
  have t5 := M64.divN z
  have t6 := M64.maskN x (by omega)
  have u1 : IntKind.u64.wrap (((x / 4294967296 : Nat) : Int) + ((y % 4294967296 : Nat) : Int)) = ((x / 4294967296 + y % 4294967296 : Nat) : Int) := by rw [M64.addN, M64.wrapN _ (by omega)]
  have u2 : IntKind.u64.wrap (((x / 4294967296 + y % 4294967296 : Nat) : Int) + ((z % 4294967296 : Nat) : Int)) = ((x / 4294967296 + y % 4294967296 + z % 4294967296 : Nat) : Int) := by rw [M64.addN, M64.wrapN _ (by omega)]
  have u3 : IntKind.u64.wrap ((v : Int) + ((y / 4294967296 : Nat) : Int)) = ((v + y / 4294967296 : Nat) : Int) := by rw [M64.addN, M64.wrapN _ (by omega)]
  have u4 : IntKind.u64.wrap (((v + y / 4294967296 : Nat) : Int) + ((z / 4294967296 : Nat) : Int)) = ((v + y / 4294967296 + z / 4294967296 : Nat) : Int) := by rw [M64.addN, M64.wrapN _ (by omega)]
  have u5 : IntKind.u64.wrap (((v + y / 4294967296 + z / 4294967296 : Nat) : Int) + (((x / 4294967296 + y % 4294967296 + z % 4294967296) / 4294967296 : Nat) : Int)) = ((v + y / 4294967296 + z / 4294967296 + (x / 4294967296 + y % 4294967296 + z % 4294967296) / 4294967296 : Nat) : Int) := by rw [M64.addN, M64.wrapN _ (by omega)]
  have u6 := M64.divN (x / 4294967296 + y % 4294967296 + z % 4294967296)
  have u7 : IntKind.u64.wrap (((x / 4294967296 + y % 4294967296 + z % 4294967296 : Nat) : Int) * 4294967296) = (((x / 4294967296 + y % 4294967296 + z % 4294967296) * 4294967296 % 18446744073709551616 : Nat) : Int) := by rw [IntKind.wrap_u64]; omega
  have HO := hideP (or_half (x % 4294967296) (x / 4294967296 + y % 4294967296 + z % 4294967296) (by omega))
  have HH : Hid (v + y / 4294967296 + z / 4294967296 + (x / 4294967296 + y % 4294967296 + z % 4294967296) / 4294967296 < 18446744073709551616 ∧ x % 4294967296 + (x / 4294967296 + y % 4294967296 + z % 4294967296) % 4294967296 * 4294967296 < 18446744073709551616 ∧ AB = x % 4294967296 + (x / 4294967296 + y % 4294967296 + z % 4294967296) % 4294967296 * 4294967296 + 18446744073709551616 * (v + y / 4294967296 + z / 4294967296 + (x / 4294967296 + y % 4294967296 + z % 4294967296) / 4294967296)) := ⟨by omega, by omega, by omega⟩
  clear hnum hle p1 p2 p3 p4 ha hb
  generalize v + y / 4294967296 + z / 4294967296 + (x / 4294967296 + y % 4294967296 + z % 4294967296) / 4294967296 = hi at *
  generalize (x / 4294967296 + y % 4294967296 + z % 4294967296) * 4294967296 % 18446744073709551616 = ms at *
  generalize x % 4294967296 + (x / 4294967296 + y % 4294967296 + z % 4294967296) % 4294967296 * 4294967296 = lo at *
  generalize v + y / 4294967296 + z / 4294967296 = vz at *
  generalize v + y / 4294967296 = vy at *
  generalize (x / 4294967296 + y % 4294967296 + z % 4294967296) / 4294967296 = mh at *
  generalize x / 4294967296 + y % 4294967296 + z % 4294967296 = md at *
  generalize x / 4294967296 + y % 4294967296 = xy at *
  generalize x / 4294967296 = xh at *
  generalize y / 4294967296 = yh at *
  generalize z / 4294967296 = zh at *
  generalize x % 4294967296 = xl at *
  generalize y % 4294967296 = yl at *
  generalize z % 4294967296 = zl at *
  go_enter Tryz.func254, Tryz.ntmps254
  go_wp2
  go_ret2
  rw [HO.out]
  exact ⟨⟨hi, lo, rfl, HH.out⟩, rfl⟩

end Go.Proofs.YtcbdbnfgnonacaaGreat

namespace Go.Proofs.YtcbdbnfgnonacaaGreat
open Go.RowKit Go.Shelf

/-- A product of words, and two words more. -/
theorem mac_cases (x y h l o c : Nat) (hx : x < 18446744073709551616) (hy : y < 18446744073709551616) (hh : h < 18446744073709551616) (hl : l < 18446744073709551616) (e : x * y = l + 18446744073709551616 * h) (ho : o < 18446744073709551616) (hc : c < 18446744073709551616) :
    ∃ l1 l2 h1 h2 : Nat, l2 < 18446744073709551616 ∧ h2 < 18446744073709551616 ∧ x * y + o + c = l2 + 18446744073709551616 * h2 ∧ IntKind.u64.wrap ((l : Int) + (o : Int)) = (l1 : Int) ∧ IntKind.u64.wrap ((l1 : Int) + (c : Int)) = (l2 : Int) ∧
      (((l1 : Int) < (o : Int) ∧ IntKind.u64.wrap ((h : Int) + 1) = (h1 : Int)) ∨ (¬ (l1 : Int) < (o : Int) ∧ h1 = h)) ∧ (((l2 : Int) < (c : Int) ∧ IntKind.u64.wrap ((h1 : Int) + 1) = (h2 : Int)) ∨ (¬ (l2 : Int) < (c : Int) ∧ h2 = h1)) := by
  have hle := prod_le hx hy
  rw [e] at hle ⊢
  simp only [IntKind.wrap_u64]
  by_cases d1 : l + o < 18446744073709551616
  · by_cases d2 : l + o + c < 18446744073709551616
    · exact ⟨l + o, l + o + c, h, h, by omega, by omega, by omega, by omega, by omega, Or.inr ⟨by omega, rfl⟩, Or.inr ⟨by omega, rfl⟩⟩
    · exact ⟨l + o, l + o + c - 18446744073709551616, h, h + 1, by omega, by omega, by omega, by omega, by omega, Or.inr ⟨by omega, rfl⟩, Or.inl ⟨by omega, by omega⟩⟩
  · by_cases d2 : l + o - 18446744073709551616 + c < 18446744073709551616
    · exact ⟨l + o - 18446744073709551616, l + o - 18446744073709551616 + c, h + 1, h + 1, by omega, by omega, by omega, by omega, by omega, Or.inl ⟨by omega, by omega⟩, Or.inr ⟨by omega, rfl⟩⟩
    · exact ⟨l + o - 18446744073709551616, l + o - 18446744073709551616 + c - 18446744073709551616, h + 1, h + 2, by omega, by omega, by omega, by omega, by omega, Or.inl ⟨by omega, by omega⟩, Or.inl ⟨by omega, by omega⟩⟩

/-- Where a row of a product has come to: cells from i on, k of them done. -/
structure RI (W wr : World) (D N i t : Nat) (y g0 gk : Nat → Nat) (k c : Nat) : Prop where
  lt : ∀ j, gk j < 18446744073709551616
  old : ∀ j, i + k ≤ j → gk j = g0 j
  sum : val gk (i + k) + 18446744073709551616 ^ (i + k) * c = val g0 (i + k) + t * val y k * 18446744073709551616 ^ i
  c : c < 18446744073709551616
  cells : wr.heap[D]? = some (.cells (cw N gk) 27 (0, 0))
  but : But D W wr

theorem RI.put {W wr : World} {D N i t : Nat} {y g0 gk : Nat → Nat} {k c s c' : Nat} (I : RI W wr D N i t y g0 gk k c) (hs : s < 18446744073709551616) (hc : c' < 18446744073709551616)
    (e : t * y k + gk (i + k) + c = s + 18446744073709551616 * c') :
    RI W (wr.setCell ⟨D, i + k, none⟩ (.int .u64 s)) D N i t y g0 (fun j => if j = i + k then s else gk j) (k + 1) c' := by
  refine ⟨fun j => ?_, fun j hj => ?_, ?_, hc, ?_, I.but.set _ _⟩
  · split
    · exact hs
    · exact I.lt j
  · rw [if_neg (by omega)]
    exact I.old j (by omega)
  · have h1 : val (fun j => if j = i + k then s else gk j) (i + k) = val gk (i + k) := val_congr _ (fun j hj => by rw [if_neg (by omega)])
    have h3 := I.old (i + k) (Nat.le_refl _)
    rw [h3] at e
    show val (fun j => if j = i + k then s else gk j) (i + k) + (if i + k = i + k then s else gk (i + k)) * 18446744073709551616 ^ (i + k) + 18446744073709551616 ^ (i + k + 1) * c' = val g0 (i + k) + g0 (i + k) * 18446744073709551616 ^ (i + k) + t * (val y k + y k * 18446744073709551616 ^ k) * 18446744073709551616 ^ i
    rw [h1, if_pos rfl, Nat.pow_succ]
    have h2 := I.sum
    rw [Nat.pow_add] at h2 ⊢
    generalize 18446744073709551616 ^ i = P at *
    generalize 18446744073709551616 ^ k = Q at *
    generalize val gk (i + k) = a at *
    generalize val g0 (i + k) = b at *
    generalize g0 (i + k) = d at *
    generalize y k = yk at *
    generalize val y k = vy at *
    have e2 : (t * yk + d + c) * (P * Q) = (s + 18446744073709551616 * c') * (P * Q) := by rw [e]
    grind
  · have := blk_set (o := i + k) I.cells (.int .u64 s)
    rw [cw_set gk s] at this
    exact this

/-- Where a product has come to: so many rows done. -/
structure QI (W wr : World) (D n : Nat) (x y g : Nat → Nat) (i : Nat) : Prop where
  lt : ∀ j, g j < 18446744073709551616
  zero : ∀ j, n + i ≤ j → g j = 0
  sum : val g (n + i) = val x i * val y n
  cells : wr.heap[D]? = some (.cells (cw (n + n) g) 27 (0, 0))
  but : But D W wr

theorem QI.row {W wr : World} {D n : Nat} {x y g : Nat → Nat} {i : Nat} (I : QI W wr D n x y g i) : RI W wr D (n + n) i (x i) y g g 0 0 :=
  ⟨I.lt, fun _ _ => rfl, by simp [val], by decide, I.cells, I.but⟩

theorem QI.put {W wr wr' : World} {D n : Nat} {x y g gk : Nat → Nat} {i c : Nat} (I : QI W wr D n x y g i) (J : RI W wr' D (n + n) i (x i) y g gk n c) :
    QI W (wr'.setCell ⟨D, i + n, none⟩ (.int .u64 c)) D n x y (fun j => if j = i + n then c else gk j) (i + 1) := by
  refine ⟨fun j => ?_, fun j hj => ?_, ?_, ?_, J.but.set _ _⟩
  · split
    · exact J.c
    · exact J.lt j
  · rw [if_neg (by omega), J.old j (by omega)]
    exact I.zero j (by omega)
  · have h1 : val (fun j => if j = i + n then c else gk j) (i + n) = val gk (i + n) := val_congr _ (fun j hj => by rw [if_neg (by omega)])
    rw [show n + (i + 1) = (i + n) + 1 by omega]
    show val (fun j => if j = i + n then c else gk j) (i + n) + (if i + n = i + n then c else gk (i + n)) * 18446744073709551616 ^ (i + n) = (val x i + x i * 18446744073709551616 ^ i) * val y n
    rw [h1, if_pos rfl]
    have h2 := J.sum
    have h3 := I.sum
    rw [Nat.add_comm n i] at h3
    rw [h3] at h2
    rw [Nat.mul_comm c, h2]
    generalize 18446744073709551616 ^ i = P
    grind
  · have := blk_set (o := i + n) J.cells (.int .u64 c)
    rw [cw_set gk c] at this
    exact this

set_option maxHeartbeats 4000000 in
set_option maxRecDepth 100000 in
theorem rmul_any {n : Nat} (hn : n ≤ 8) (X Y : Nat) (hX : X < 18446744073709551616 ^ n) (hY : Y < 18446744073709551616 ^ n) (w : World) (u v : Value) (hu : LW w u n (limb X)) (hv : LW w v n (limb Y)) :
    Calls Tryz.prog 250 #[u, v] w fun r w' => (∃ g, r = .returned (.slice (some ⟨g, 0, none⟩) (n + n) (n + n)) ∧ w'.heap[g]? = some (.cells (cw (n + n) (limb (X * Y))) 27 (0, 0)) ∧ w.heap.size ≤ g) ∧ Below w.heap.size w w' := by
  obtain ⟨g1, o1, c1, rfl, _, _, l1, h1⟩ := hu.ex
  obtain ⟨g2, o2, c2, rfl, _, _, l2, h2⟩ := hv.ex
  have H1 := hideP h1
  have H2 := hideP h2
  have HH : Hid (X < 18446744073709551616 ^ n ∧ Y < 18446744073709551616 ^ n ∧ n ≤ 8) := ⟨hX, hY, hn⟩
  obtain ⟨N, hN⟩ : ∃ N, N = n + n := ⟨_, rfl⟩
  have hmk := make_words w N (by omega)
  have ew : IntKind.i64.wrap ((n : Int) + (n : Int)) = (N : Int) := by rw [IntKind.wrap_i64]; omega
  have HN := hideP hN
  rw [← hN]
  clear h1 h2 hu hv hX hY hn hN
  go_enter Tryz.func250, Tryz.ntmps250
  go_wp2_with fail
  refine at_world (fun W0 hW0 => ?_)
  have hD : W0.heap[w.heap.size]? = some (.cells (cw N (fun _ => 0)) 27 (0, 0)) := by
    rw [hW0]
    exact heap_new _ _
  have HBW : Hid (Below w.heap.size w W0) := by
    show Below _ _ _
    rw [hW0]
    repeat first | exact Below.refl _ _ | (refine Below.alloc ?_ (by simp <;> omega) _)
  have hz0 : ∀ k, val (fun _ => 0) k = 0 := fun k => by
    induction k with
    | zero => rfl
    | succ k ih => simp [val, ih]
  have HI0 : Hid (QI W0 W0 w.heap.size n (limb X) (limb Y) (fun _ => 0) 0) := ⟨fun _ => by decide, fun _ _ => rfl, by rw [hz0]; simp [val], by rw [← HN.out]; exact hD, But.refl _ _⟩
  clear hW0 hD hmk hz0
  go_loopw [21] (fun i wr => ∃ (k : Nat) (g : Nat → Nat), k ≤ n ∧ i = .int .i64 k ∧ QI W0 wr w.heap.size n (limb X) (limb Y) g k) (fun i _ => n - (intOf i).toNat)
  case atStart => exact ⟨0, fun _ => 0, Nat.zero_le _, rfl, HI0.out⟩
  case round =>
    obtain ⟨i, g, hk, rfl, I⟩ := hrel
    have HI := hideP I
    clear I
    have hn := HH.out.2.2
    by_cases hlt : i < n
    · have ca : wr.cell? ⟨g1, o1 + i, none⟩ = some (.int .u64 (limb X i)) := by
        rw [HI.out.but.cell (show g1 ≠ w.heap.size by omega), HBW.out.cell (p := ⟨g1, o1 + i, none⟩) l1]
        exact H1.out _ hlt
      have hlt' : (i : Int) < n := by omega
      have e4 : IntKind.i64.wrap ((i : Int) + 1) = (i : Int) + 1 := by rw [IntKind.wrap_i64]; omega
      have e5 : IntKind.i64.wrap ((i : Int) + (n : Int)) = ((i + n : Nat) : Int) := by rw [IntKind.wrap_i64]; omega
      have HKS : Hid (i + 1 ≤ n) := hlt
      have HR0 := hideP HI.out.row
      clear hk hlt hn
      go_wp2_with fail
      rename World => wA
      clear ca
      go_loopw [8, 28] (fun c kk wr => ∃ (k cv : Nat) (gk : Nat → Nat), k ≤ n ∧ kk = .int .i64 k ∧ c = .int .u64 cv ∧ RI W0 wr w.heap.size (n + n) i (limb X i) (limb Y) g gk k cv) (fun _ kk _ => n - (intOf kk).toNat)
      case atStart => exact ⟨0, 0, g, Nat.zero_le _, rfl, rfl, HR0.out⟩
      case round =>
        obtain ⟨k, cv, gk, hk, rfl, rfl, J⟩ := hrel
        have HJ := hideP J
        clear J
        have hn := HH.out.2.2
        have hin := HKS.out
        by_cases hlk : k < n
        · have cb : wr.cell? ⟨g2, o2 + k, none⟩ = some (.int .u64 (limb Y k)) := by
            rw [HJ.out.but.cell (show g2 ≠ w.heap.size by omega), HBW.out.cell (p := ⟨g2, o2 + k, none⟩) l2]
            exact H2.out _ hlk
          have hNN := HN.out
          have cd := blk_cell HJ.out.cells (cw_get gk (show i + k < n + n by omega))
          have fr : ∀ o, wr.frozen? ⟨w.heap.size, o, none⟩ = false := fun o => blk_free HJ.out.cells
          have C := hideP (half_any (limb X i) (limb Y k) (limb_lt _ _) (limb_lt _ _) wr)
          have hlk' : (k : Int) < n := by omega
          have e6 : IntKind.i64.wrap ((i : Int) + (k : Int)) = ((i + k : Nat) : Int) := by rw [IntKind.wrap_i64]; omega
          have e7 : IntKind.i64.wrap ((k : Int) + 1) = (k : Int) + 1 := by rw [IntKind.wrap_i64]; omega
          have g7 : ((i + k : Nat) : Int) < (N : Int) := by omega
          have HKK : Hid (k + 1 ≤ n) := hlk
          have hog := HJ.out.lt (i + k)
          have hcv := HJ.out.c
          have hxi := limb_lt X i
          have hyk := limb_lt Y k
          have HP := hideP (fun s c' hs hc e => HJ.out.put (s := s) (c' := c') hs hc e)
          generalize limb Y k = yk at *
          generalize limb X i = xi at *
          generalize gk (i + k) = ogk at *
          clear hk hlk hn hin HJ hNN e5
          generalize i + k = ik at *
          go_wp2_with fail
          refine C.out.mono ?_
          rintro r wB ⟨⟨h, l, rfl, hh, hl, he⟩, rfl⟩
          obtain ⟨l1', l2', h1', h2', q1, q2, q3, w1, w2, d1, d2⟩ := mac_cases xi yk h l ogk cv hxi hyk hh hl he hog hcv
          have HP2 := hideP (HP.out _ _ q1 q2 q3)
          clear HP he hh hl q1 q2 q3 hog hcv hxi hyk C
          rcases d1 with ⟨d1, v1⟩ | ⟨d1, rfl⟩ <;> rcases d2 with ⟨d2, v2⟩ | ⟨d2, rfl⟩
          all_goals
            go_wp2_with fail
            exact ⟨⟨k + 1, _, _, HKK.out, by go_num, rfl, HP2.out⟩, by have := HKK.out; simp [intOf]; omega⟩
        · have hkn : k = n := by omega
          have hnl : ¬ (k : Int) < n := by omega
          have HJn : Hid (RI W0 wr w.heap.size (n + n) i (limb X i) (limb Y) g gk n cv) := hkn ▸ HJ.out
          have HQ := hideP (HI.out.put HJn.out)
          have hNN := HN.out
          have cd := blk_cell HJn.out.cells (cw_get gk (show i + n < n + n by omega))
          have fr : ∀ o, wr.frozen? ⟨w.heap.size, o, none⟩ = false := fun o => blk_free HJn.out.cells
          have g7 : ((i + n : Nat) : Int) < (N : Int) := by omega
          clear hk hlk hn hin HJ HJn HI hNN HR0
          generalize i + n = inn at *
          go_wp2_with fail
          exact ⟨⟨i + 1, _, HKS.out, by go_num, HQ.out⟩, by have := HKS.out; simp [intOf]; omega⟩
    · have hkn : i = n := by omega
      have hnl : ¬ (i : Int) < n := by omega
      have HJ : Hid (QI W0 wr w.heap.size n (limb X) (limb Y) g n) := hkn ▸ HI.out
      have HC : Hid (wr.heap[w.heap.size]? = some (.cells (cw N (limb (X * Y))) 27 (0, 0))) := by
        show _ = _
        rw [HN.out]
        have h1 := HJ.out.sum
        rw [val_limbs HH.out.1, val_limbs HH.out.2.1] at h1
        rw [← h1, cw_congr (g := g) (fun j hj => limb_val (n + n) (fun j _ => HJ.out.lt j) hj)]
        exact HJ.out.cells
      have HB := hideP HJ.out.but.below
      clear hk hlt hn hkn HI HJ
      go_wp2
      go_ret
      exact ⟨⟨_, rfl, HC.out, Nat.le_refl _⟩, HBW.out.trans HB.out⟩

end Go.Proofs.YtcbdbnfgnonacaaGreat
