/-
 The document's reduce.
-/
import Derived.Test.YtcbdbnfgnonacaaGreatCurveBn1C03
import Derived.Deep.DeepAppendWide
set_option maxHeartbeats 8000000
set_option maxRecDepth 100000
namespace Go.Proofs.YtcbdbnfgnonacaaGreat
open Go.RowKit Go.Shelf
theorem Zip (A q r : Nat) (hr : r < 64) : limb A q / 2 ^ r % 2 = A / 2 ^ (64 * q + r) % 2 := by
 unfold limb
 rw [Nat.pow_add, ← Nat.div_div_eq_div_mul, Nat.pow_mul, show (2 : Nat) ^ 64 = 18446744073709551616 by decide]
 generalize A / 18446744073709551616 ^ q = y
 have e : (18446744073709551616 : Nat) = 2 ^ r * (2 * 2 ^ (63 - r)) := by
  rw [show (2 : Nat) * 2 ^ (63 - r) = 2 ^ (63 - r + 1) by rw [Nat.pow_succ, Nat.mul_comm], ← Nat.pow_add, show r + (63 - r + 1) = 64 by omega]
 rw [e, Nat.mod_mul_right_div_self, Nat.mod_mul_right_mod]
theorem Zmr (A M p : Nat) : (2 * (A / 2 ^ (p + 1) % M) + A / 2 ^ p % 2) % M = A / 2 ^ p % M := by
 have e : A / 2 ^ p = 2 * (A / 2 ^ (p + 1)) + A / 2 ^ p % 2 := by
  rw [Nat.pow_succ, ← Nat.div_div_eq_div_mul]
  omega
 conv => rhs; rw [e]
 rw [Nat.add_mod, Nat.mul_mod, Nat.mod_mod, ← Nat.mul_mod, ← Nat.add_mod]
theorem ZdA (y : Nat) (hy : y < 18446744073709551616) : bits .and .u64 (y : Int) 1 = ((y % 2 : Nat) : Int) := by
 have h := bits_and_u64_nat y 1 hy (by omega)
 rw [Nat.and_one_is_mod] at h
 exact h
theorem Zho {na n : Nat} (hna : na ≤ 17) (hn : n ≤ 8) (A M : Nat) (hA : A < 18446744073709551616 ^ na) (h0 : 0 < M) (hM : M < 18446744073709551616 ^ n) (w : World) (u m : Value) (hu : LW w u na (limb A)) (hm : LW w m n (limb M)) :
  Calls Tryz.prog 163 #[u, m] w fun r w' => (∃ v', r = .returned v' ∧ LW w' v' n (limb (A % M))) ∧ Below w.heap.size w w' := by
 obtain ⟨g1, o1, c1, rfl, _, _, l1, h1⟩ := hu.ex
 have HM := hideP hm
 obtain ⟨g2, o2, c2, rfl, _, _, l2, h2⟩ := hm.ex
 have H1 := hideP h1
 have HH : Hid (A < 18446744073709551616 ^ na ∧ 0 < M ∧ M < 18446744073709551616 ^ n ∧ n ≤ 8 ∧ na ≤ 17) := ⟨hA, h0, hM, hn, hna⟩
 have hmk := ZaV w n (by omega)
 have ew : IntKind.i64.wrap (n : Int) = (n : Int) := by rw [IntKind.wrap_i64]; omega
 have ew2 : IntKind.i64.wrap ((na : Int) - 1) = (na : Int) - 1 := by rw [IntKind.wrap_i64]; omega
 clear h1 h2 hu hm hA h0 hM hn hna
 go_enter Tryz.func163, Tryz.ntmps163
 go_wp2_with fail
 refine Zaj (fun W0 hW0 => ?_)
 have hD : W0.heap[w.heap.size]? = some (.cells (cw n (fun _ => 0)) 27 (0, 0)) := by
  rw [hW0]
  exact Zaf _ _
 have HBW : Hid (Below w.heap.size w W0) := by
  show Below _ _ _
  rw [hW0]
  repeat first | exact Below.refl _ _ | (refine Below.alloc ?_ (by simp <;> omega) _)
 have HI0 : Hid (LW W0 (.slice (some ⟨w.heap.size, 0, none⟩) n n) n (limb (A / 18446744073709551616 ^ na % M))) := by
  have := HH.out.2.2.2.1
  rw [Nat.div_eq_of_lt HH.out.1, Nat.zero_mod]
  exact (Zcd (by omega) hD).congr (fun j _ => by simp [limb])
 clear hW0 hD hmk
 go_loopw [5, 6] (fun o i wr => ∃ k : Nat, k ≤ na ∧ i = .int .i64 ((k : Int) - 1) ∧ LW wr o n (limb (A / 18446744073709551616 ^ k % M)) ∧ Below w.heap.size w wr) (fun _ i _ => (intOf i + 1).toNat)
 case atStart => exact ⟨na, Nat.le_refl _, rfl, HI0.out, HBW.out⟩
 case round =>
  obtain ⟨k, hk, rfl, hL, hb⟩ := hrel
  by_cases hz : 0 < k
  ·
   have e1 : (k : Int) - 1 = ((k - 1 : Nat) : Int) := by omega
   have hna := HH.out.2.2.2.2
   have e2 : IntKind.i64.wrap (((k - 1 : Nat) : Int) - 1) = ((k - 1 : Nat) : Int) - 1 := by rw [IntKind.wrap_i64]; omega
   have g3 : ((k - 1 : Nat) : Int) < na := by omega
   have HKS : Hid (k - 1 ≤ na ∧ 0 < k ∧ k ≤ na) := ⟨by omega, hz, hk⟩
   have HL : Hid (LW wr u5 n (limb (A / 2 ^ (64 * (k - 1) + 64) % M))) := by
    show LW _ _ _ _
    rw [show 64 * (k - 1) + 64 = 64 * k by omega, Nat.pow_mul, show (2 : Nat) ^ 64 = 18446744073709551616 by decide]
    exact hL
   have HB := hideP hb
   rw [e1]
   clear hb hL hk hz e1 hna
   go_wp2_with fail
   rename World => wA
   go_loopw [5, 7] (fun o kk wr => ∃ j : Nat, j ≤ 64 ∧ kk = .int .i64 ((j : Int) - 1) ∧ LW wr o n (limb (A / 2 ^ (64 * (k - 1) + j) % M)) ∧ Below w.heap.size w wr) (fun _ kk _ => (intOf kk + 1).toNat)
   case atStart => exact ⟨64, Nat.le_refl _, rfl, HL.out, HB.out⟩
   case round =>
    obtain ⟨j, hj, rfl, hL, hb⟩ := hrel
    by_cases hz : 0 < j
    ·
     have e1 : (j : Int) - 1 = ((j - 1 : Nat) : Int) := by omega
     have hk1 : k - 1 < na := by have := HKS.out; omega
     have ca : wr.cell? ⟨g1, o1 + (k - 1), none⟩ = some (.int .u64 (limb A (k - 1))) := (hb.cell (p := ⟨g1, o1 + (k - 1), none⟩) l1).trans (H1.out _ hk1)
     have hlx := Zaz A (k - 1)
     have hbt : limb A (k - 1) / 2 ^ (j - 1) % 2 ≤ 1 := by omega
     have hdl : limb A (k - 1) / 2 ^ (j - 1) < 18446744073709551616 := Nat.lt_of_le_of_lt (Nat.div_le_self _ _) hlx
     have hand : bits .and .u64 ((limb A (k - 1) : Int) / 2 ^ (j - 1)) 1 = ((limb A (k - 1) / 2 ^ (j - 1) % 2 : Nat) : Int) := by
      rw [← ZdA _ hdl]
      congr 1
     have C := hideP (ZhE HH.out.2.2.2.1 (A / 2 ^ (64 * (k - 1) + j) % M) (limb A (k - 1) / 2 ^ (j - 1) % 2) M (Nat.mod_lt _ HH.out.2.1) hbt HH.out.2.2.1 wr _ _ hL (HM.out.moved hb))
     have HE : Hid ((2 * (A / 2 ^ (64 * (k - 1) + j) % M) + limb A (k - 1) / 2 ^ (j - 1) % 2) % M = A / 2 ^ (64 * (k - 1) + (j - 1)) % M) := by
      show _ = _
      rw [Zip A (k - 1) (j - 1) (by omega), ← Zmr A M (64 * (k - 1) + (j - 1)), show 64 * (k - 1) + (j - 1) + 1 = 64 * (k - 1) + j by omega]
     rw [HE.out] at C
     have HJS : Hid (j - 1 ≤ 64 ∧ 0 < j) := ⟨by omega, hz⟩
     have g4 : ((j - 1 : Nat) : Int) < 64 := by omega
     have e3 : IntKind.i64.wrap (((j - 1 : Nat) : Int) - 1) = ((j - 1 : Nat) : Int) - 1 := by rw [IntKind.wrap_i64]; omega
     have e5 : IntKind.u64.wrap ((j - 1 : Nat) : Int) = ((j - 1 : Nat) : Int) := by rw [IntKind.wrap_u64]; omega
     have HB2 := hideP hb
     rw [e1]
     clear hb hL hj hz e1 hk1 hbt hdl HE
     generalize limb A (k - 1) / 2 ^ (j - 1) % 2 = bt at *
     generalize limb A (k - 1) = lv at *
     generalize hj1 : j - 1 = j1 at *
     generalize hkk : k - 1 = k1 at *
     go_wp2_with fail
     refine C.out.mono ?_
     rintro r w3 ⟨⟨v3, rfl, hL3⟩, hb3⟩
     have HL3 := hideP hL3
     have HB3 := hideP (HB2.out.trans (hb3.mono HB2.out.size))
     clear hL3 hb3
     go_wp2_with fail
     refine ⟨⟨j1, HJS.out.1, by go_num, HL3.out, HB3.out⟩, ?_⟩
     have := HJS.out.2
     simp [intOf] <;> omega
    ·
     have hj0 : j = 0 := by omega
     subst hj0
     have HL2 : Hid (LW wr u5 n (limb (A / 18446744073709551616 ^ (k - 1) % M))) := by
      show LW _ _ _ _
      rw [Nat.add_zero, Nat.pow_mul, show (2 : Nat) ^ 64 = 18446744073709551616 by decide] at hL
      exact hL
     have HB2 := hideP hb
     clear hL hb hj hz
     simp only [Int.natCast_zero, Int.zero_sub]
     generalize hkk : k - 1 = k1 at *
     go_wp2_with fail
     refine ⟨⟨k1, HKS.out.1, by go_num, HL2.out, HB2.out⟩, ?_⟩
     have := HKS.out.2
     simp [intOf] <;> omega
  ·
   have hk0 : k = 0 := by omega
   subst hk0
   rw [Nat.pow_zero, Nat.div_one] at hL
   have HL := hideP hL
   have HB := hideP hb
   clear hL hb hk hz
   simp only [Int.natCast_zero, Int.zero_sub]
   go_wp2
   go_ret
   exact ⟨⟨_, rfl, HL.out⟩, HB.out⟩
theorem Zkz (a b : Nat) :
  a % 4294967296 * (b % 4294967296) % 4294967296 + (a % 4294967296 * (b % 4294967296) / 4294967296 + a % 4294967296 * (b / 4294967296) % 4294967296 + a / 4294967296 * (b % 4294967296) % 4294967296) % 4294967296 * 4294967296 +
   18446744073709551616 * (a / 4294967296 * (b / 4294967296) + a % 4294967296 * (b / 4294967296) / 4294967296 + a / 4294967296 * (b % 4294967296) / 4294967296 + (a % 4294967296 * (b % 4294967296) / 4294967296 + a % 4294967296 * (b / 4294967296) % 4294967296 + a / 4294967296 * (b % 4294967296) % 4294967296) / 4294967296) = a * b := by
 have e : a * b = 18446744073709551616 * (a / 4294967296 * (b / 4294967296)) + 4294967296 * (a % 4294967296 * (b / 4294967296)) + 4294967296 * (a / 4294967296 * (b % 4294967296)) + a % 4294967296 * (b % 4294967296) := by
  conv => lhs; rw [← Nat.div_add_mod a 4294967296, ← Nat.div_add_mod b 4294967296]
  generalize a / 4294967296 = p
  generalize a % 4294967296 = q
  generalize b / 4294967296 = r
  generalize b % 4294967296 = s
  grind
 rw [e]
 generalize a / 4294967296 * (b / 4294967296) = p
 generalize a % 4294967296 * (b / 4294967296) = q
 generalize a / 4294967296 * (b % 4294967296) = r
 generalize a % 4294967296 * (b % 4294967296) = s
 omega
theorem Zms (x m : Nat) (hx : x < 4294967296) : bits .or .u64 (x : Int) ((m * 4294967296 % 18446744073709551616 : Nat) : Int) = ((x + m % 4294967296 * 4294967296 : Nat) : Int) := by
 have h := bits_or_u64_nat x (m * 4294967296 % 18446744073709551616) (by omega) (by omega)
 have e0 : m * 4294967296 % 18446744073709551616 = 2 ^ 32 * (m % 4294967296) := by omega
 have e : x ||| m * 4294967296 % 18446744073709551616 = x + m % 4294967296 * 4294967296 := by
  rw [e0, Nat.or_comm, ← Nat.two_pow_add_eq_or_of_lt (show x < 2 ^ 32 by omega)]
  omega
 rw [h, e]
theorem Zhp (a b : Nat) (ha : a < 18446744073709551616) (hb : b < 18446744073709551616) (w : World) :
  Calls Tryz.prog 254 #[.int .u64 a, .int .u64 b] w fun e w' => (∃ h l : Nat, e = .returned (.tuple #[.int .u64 h, .int .u64 l]) ∧ h < 18446744073709551616 ∧ l < 18446744073709551616 ∧ a * b = l + 18446744073709551616 * h) ∧ w = w' := by
 have hnum := Zkz a b
 have hle := ZeK ha hb
 have p1 := Lib.half_mul_le (a := a % 4294967296) (b := b % 4294967296) (by omega) (by omega)
 have p2 := Lib.half_mul_le (a := a % 4294967296) (b := b / 4294967296) (by omega) (by omega)
 have p3 := Lib.half_mul_le (a := a / 4294967296) (b := b % 4294967296) (by omega) (by omega)
 have p4 := Lib.half_mul_le (a := a / 4294967296) (b := b / 4294967296) (by omega) (by omega)
 have m1 := M64.maskN a ha
 have m2 := M64.maskN b hb
 have s1 := M64.divN a
 have s2 := M64.divN b
 have w1 : IntKind.u64.wrap (((a % 4294967296 : Nat) : Int) * ((b % 4294967296 : Nat) : Int)) = ((a % 4294967296 * (b % 4294967296) : Nat) : Int) := by rw [M64.mulN, M64.wrapN _ (by omega)]
 have w2 : IntKind.u64.wrap (((a % 4294967296 : Nat) : Int) * ((b / 4294967296 : Nat) : Int)) = ((a % 4294967296 * (b / 4294967296) : Nat) : Int) := by rw [M64.mulN, M64.wrapN _ (by omega)]
 have w3 : IntKind.u64.wrap (((a / 4294967296 : Nat) : Int) * ((b % 4294967296 : Nat) : Int)) = ((a / 4294967296 * (b % 4294967296) : Nat) : Int) := by rw [M64.mulN, M64.wrapN _ (by omega)]
 have w4 : IntKind.u64.wrap (((a / 4294967296 : Nat) : Int) * ((b / 4294967296 : Nat) : Int)) = ((a / 4294967296 * (b / 4294967296) : Nat) : Int) := by rw [M64.mulN, M64.wrapN _ (by omega)]
 generalize a * b = AB at *
 generalize a % 4294967296 * (b % 4294967296) = x at *
 generalize a % 4294967296 * (b / 4294967296) = y at *
 generalize a / 4294967296 * (b % 4294967296) = z at *
 generalize a / 4294967296 * (b / 4294967296) = v at *
 generalize a % 4294967296 = al at *
 generalize a / 4294967296 = ah at *
 generalize b % 4294967296 = bl at *
 generalize b / 4294967296 = bh at *
 have t1 := M64.divN x
 have t2 := M64.maskN y (by omega)
 have t3 := M64.maskN z (by omega)
 have t4 := M64.divN y
 have t5 := M64.divN z
 have t6 := M64.maskN x (by omega)
 have u1 : IntKind.u64.wrap (((x / 4294967296 : Nat) : Int) + ((y % 4294967296 : Nat) : Int)) = ((x / 4294967296 + y % 4294967296 : Nat) : Int) := by rw [M64.addN, M64.wrapN _ (by omega)]
 have u2 : IntKind.u64.wrap (((x / 4294967296 + y % 4294967296 : Nat) : Int) + ((z % 4294967296 : Nat) : Int)) = ((x / 4294967296 + y % 4294967296 + z % 4294967296 : Nat) : Int) := by rw [M64.addN, M64.wrapN _ (by omega)]
 have u3 : IntKind.u64.wrap ((v : Int) + ((y / 4294967296 : Nat) : Int)) = ((v + y / 4294967296 : Nat) : Int) := by rw [M64.addN, M64.wrapN _ (by omega)]
 have u4 : IntKind.u64.wrap (((v + y / 4294967296 : Nat) : Int) + ((z / 4294967296 : Nat) : Int)) = ((v + y / 4294967296 + z / 4294967296 : Nat) : Int) := by rw [M64.addN, M64.wrapN _ (by omega)]
 have u5 : IntKind.u64.wrap (((v + y / 4294967296 + z / 4294967296 : Nat) : Int) + (((x / 4294967296 + y % 4294967296 + z % 4294967296) / 4294967296 : Nat) : Int)) = ((v + y / 4294967296 + z / 4294967296 + (x / 4294967296 + y % 4294967296 + z % 4294967296) / 4294967296 : Nat) : Int) := by rw [M64.addN, M64.wrapN _ (by omega)]
 have u6 := M64.divN (x / 4294967296 + y % 4294967296 + z % 4294967296)
 have u7 : IntKind.u64.wrap (((x / 4294967296 + y % 4294967296 + z % 4294967296 : Nat) : Int) * 4294967296) = (((x / 4294967296 + y % 4294967296 + z % 4294967296) * 4294967296 % 18446744073709551616 : Nat) : Int) := by rw [IntKind.wrap_u64]; omega
 have HO := hideP (Zms (x % 4294967296) (x / 4294967296 + y % 4294967296 + z % 4294967296) (by omega))
 have HH : Hid (v + y / 4294967296 + z / 4294967296 + (x / 4294967296 + y % 4294967296 + z % 4294967296) / 4294967296 < 18446744073709551616 ∧ x % 4294967296 + (x / 4294967296 + y % 4294967296 + z % 4294967296) % 4294967296 * 4294967296 < 18446744073709551616 ∧ AB = x % 4294967296 + (x / 4294967296 + y % 4294967296 + z % 4294967296) % 4294967296 * 4294967296 + 18446744073709551616 * (v + y / 4294967296 + z / 4294967296 + (x / 4294967296 + y % 4294967296 + z % 4294967296) / 4294967296)) := ⟨by omega, by omega, by omega⟩
 clear hnum hle p1 p2 p3 p4 ha hb
 generalize v + y / 4294967296 + z / 4294967296 + (x / 4294967296 + y % 4294967296 + z % 4294967296) / 4294967296 = hi at *
 generalize (x / 4294967296 + y % 4294967296 + z % 4294967296) * 4294967296 % 18446744073709551616 = ms at *
 generalize x % 4294967296 + (x / 4294967296 + y % 4294967296 + z % 4294967296) % 4294967296 * 4294967296 = lo at *
 generalize v + y / 4294967296 + z / 4294967296 = vz at *
 generalize v + y / 4294967296 = vy at *
 generalize (x / 4294967296 + y % 4294967296 + z % 4294967296) / 4294967296 = mh at *
 generalize x / 4294967296 + y % 4294967296 + z % 4294967296 = md at *
 generalize x / 4294967296 + y % 4294967296 = xy at *
 generalize x / 4294967296 = xh at *
 generalize y / 4294967296 = yh at *
 generalize z / 4294967296 = zh at *
 generalize x % 4294967296 = xl at *
 generalize y % 4294967296 = yl at *
 generalize z % 4294967296 = zl at *
 go_enter Tryz.func254, Tryz.ntmps254
 go_wp2
 go_ret2
 rw [HO.out]
 exact ⟨⟨hi, lo, rfl, HH.out⟩, rfl⟩
theorem ZfG (x y h l o c : Nat) (hx : x < 18446744073709551616) (hy : y < 18446744073709551616) (hh : h < 18446744073709551616) (hl : l < 18446744073709551616) (e : x * y = l + 18446744073709551616 * h) (ho : o < 18446744073709551616) (hc : c < 18446744073709551616) :
  ∃ l1 l2 h1 h2 : Nat, l2 < 18446744073709551616 ∧ h2 < 18446744073709551616 ∧ x * y + o + c = l2 + 18446744073709551616 * h2 ∧ IntKind.u64.wrap ((l : Int) + (o : Int)) = (l1 : Int) ∧ IntKind.u64.wrap ((l1 : Int) + (c : Int)) = (l2 : Int) ∧
   (((l1 : Int) < (o : Int) ∧ IntKind.u64.wrap ((h : Int) + 1) = (h1 : Int)) ∨ (¬ (l1 : Int) < (o : Int) ∧ h1 = h)) ∧ (((l2 : Int) < (c : Int) ∧ IntKind.u64.wrap ((h1 : Int) + 1) = (h2 : Int)) ∨ (¬ (l2 : Int) < (c : Int) ∧ h2 = h1)) := by
 have hle := ZeK hx hy
 rw [e] at hle ⊢
 simp only [IntKind.wrap_u64]
 by_cases d1 : l + o < 18446744073709551616
 ·
  by_cases d2 : l + o + c < 18446744073709551616
  ·
   exact ⟨l + o, l + o + c, h, h, by omega, by omega, by omega, by omega, by omega, Or.inr ⟨by omega, rfl⟩, Or.inr ⟨by omega, rfl⟩⟩
  ·
   exact ⟨l + o, l + o + c - 18446744073709551616, h, h + 1, by omega, by omega, by omega, by omega, by omega, Or.inr ⟨by omega, rfl⟩, Or.inl ⟨by omega, by omega⟩⟩
 ·
  by_cases d2 : l + o - 18446744073709551616 + c < 18446744073709551616
  ·
   exact ⟨l + o - 18446744073709551616, l + o - 18446744073709551616 + c, h + 1, h + 1, by omega, by omega, by omega, by omega, by omega, Or.inl ⟨by omega, by omega⟩, Or.inr ⟨by omega, rfl⟩⟩
  ·
   exact ⟨l + o - 18446744073709551616, l + o - 18446744073709551616 + c - 18446744073709551616, h + 1, h + 2, by omega, by omega, by omega, by omega, by omega, Or.inl ⟨by omega, by omega⟩, Or.inl ⟨by omega, by omega⟩⟩
structure RI (W wr : World) (D N i t : Nat) (y g0 gk : Nat → Nat) (k c : Nat) : Prop where
 lt : ∀ j, gk j < 18446744073709551616
 old : ∀ j, i + k ≤ j → gk j = g0 j
 sum : val gk (i + k) + 18446744073709551616 ^ (i + k) * c = val g0 (i + k) + t * val y k * 18446744073709551616 ^ i
 c : c < 18446744073709551616
 cells : wr.heap[D]? = some (.cells (cw N gk) 27 (0, 0))
 but : But D W wr
theorem RI.put {W wr : World} {D N i t : Nat} {y g0 gk : Nat → Nat} {k c s c' : Nat} (I : RI W wr D N i t y g0 gk k c) (hs : s < 18446744073709551616) (hc : c' < 18446744073709551616)
  (e : t * y k + gk (i + k) + c = s + 18446744073709551616 * c') :
  RI W (wr.setCell ⟨D, i + k, none⟩ (.int .u64 s)) D N i t y g0 (fun j => if j = i + k then s else gk j) (k + 1) c' := by
 refine ⟨fun j => ?_, fun j hj => ?_, ?_, hc, ?_, I.but.set _ _⟩
 ·
  split
  ·
   exact hs
  ·
   exact I.lt j
 ·
  rw [if_neg (by omega)]
  exact I.old j (by omega)
 ·
  have h1 : val (fun j => if j = i + k then s else gk j) (i + k) = val gk (i + k) := Za0 _ (fun j hj => by rw [if_neg (by omega)])
  have h3 := I.old (i + k) (Nat.le_refl _)
  rw [h3] at e
  show val (fun j => if j = i + k then s else gk j) (i + k) + (if i + k = i + k then s else gk (i + k)) * 18446744073709551616 ^ (i + k) + 18446744073709551616 ^ (i + k + 1) * c' = val g0 (i + k) + g0 (i + k) * 18446744073709551616 ^ (i + k) + t * (val y k + y k * 18446744073709551616 ^ k) * 18446744073709551616 ^ i
  rw [h1, if_pos rfl, Nat.pow_succ]
  have h2 := I.sum
  rw [Nat.pow_add] at h2 ⊢
  generalize 18446744073709551616 ^ i = P at *
  generalize 18446744073709551616 ^ k = Q at *
  generalize val gk (i + k) = a at *
  generalize val g0 (i + k) = b at *
  generalize g0 (i + k) = d at *
  generalize y k = yk at *
  generalize val y k = vy at *
  have e2 : (t * yk + d + c) * (P * Q) = (s + 18446744073709551616 * c') * (P * Q) := by rw [e]
  grind
 ·
  have := Zaw (o := i + k) I.cells (.int .u64 s)
  rw [Zd9 gk s] at this
  exact this
structure QI (W wr : World) (D n : Nat) (x y g : Nat → Nat) (i : Nat) : Prop where
 lt : ∀ j, g j < 18446744073709551616
 zero : ∀ j, n + i ≤ j → g j = 0
 sum : val g (n + i) = val x i * val y n
 cells : wr.heap[D]? = some (.cells (cw (n + n) g) 27 (0, 0))
 but : But D W wr
theorem QI.row {W wr : World} {D n : Nat} {x y g : Nat → Nat} {i : Nat} (I : QI W wr D n x y g i) : RI W wr D (n + n) i (x i) y g g 0 0 :=
 ⟨I.lt, fun _ _ => rfl, by simp [val], by decide, I.cells, I.but⟩
theorem QI.put {W wr wr' : World} {D n : Nat} {x y g gk : Nat → Nat} {i c : Nat} (I : QI W wr D n x y g i) (J : RI W wr' D (n + n) i (x i) y g gk n c) :
  QI W (wr'.setCell ⟨D, i + n, none⟩ (.int .u64 c)) D n x y (fun j => if j = i + n then c else gk j) (i + 1) := by
 refine ⟨fun j => ?_, fun j hj => ?_, ?_, ?_, J.but.set _ _⟩
 ·
  split
  ·
   exact J.c
  ·
   exact J.lt j
 ·
  rw [if_neg (by omega), J.old j (by omega)]
  exact I.zero j (by omega)
 ·
  have h1 : val (fun j => if j = i + n then c else gk j) (i + n) = val gk (i + n) := Za0 _ (fun j hj => by rw [if_neg (by omega)])
  rw [show n + (i + 1) = (i + n) + 1 by omega]
  show val (fun j => if j = i + n then c else gk j) (i + n) + (if i + n = i + n then c else gk (i + n)) * 18446744073709551616 ^ (i + n) = (val x i + x i * 18446744073709551616 ^ i) * val y n
  rw [h1, if_pos rfl]
  have h2 := J.sum
  have h3 := I.sum
  rw [Nat.add_comm n i] at h3
  rw [h3] at h2
  rw [Nat.mul_comm c, h2]
  generalize 18446744073709551616 ^ i = P
  grind
 ·
  have := Zaw (o := i + n) J.cells (.int .u64 c)
  rw [Zd9 gk c] at this
  exact this
theorem Zk0 {n : Nat} (hn : n ≤ 8) (X Y : Nat) (hX : X < 18446744073709551616 ^ n) (hY : Y < 18446744073709551616 ^ n) (w : World) (u v : Value) (hu : LW w u n (limb X)) (hv : LW w v n (limb Y)) :
  Calls Tryz.prog 250 #[u, v] w fun r w' => (∃ g, r = .returned (.slice (some ⟨g, 0, none⟩) (n + n) (n + n)) ∧ w'.heap[g]? = some (.cells (cw (n + n) (limb (X * Y))) 27 (0, 0)) ∧ w.heap.size ≤ g) ∧ Below w.heap.size w w' := by
 obtain ⟨g1, o1, c1, rfl, _, _, l1, h1⟩ := hu.ex
 obtain ⟨g2, o2, c2, rfl, _, _, l2, h2⟩ := hv.ex
 have H1 := hideP h1
 have H2 := hideP h2
 have HH : Hid (X < 18446744073709551616 ^ n ∧ Y < 18446744073709551616 ^ n ∧ n ≤ 8) := ⟨hX, hY, hn⟩
 obtain ⟨N, hN⟩ : ∃ N, N = n + n := ⟨_, rfl⟩
 have hmk := ZaV w N (by omega)
 have ew : IntKind.i64.wrap ((n : Int) + (n : Int)) = (N : Int) := by rw [IntKind.wrap_i64]; omega
 have HN := hideP hN
 rw [← hN]
 clear h1 h2 hu hv hX hY hn hN
 go_enter Tryz.func250, Tryz.ntmps250
 go_wp2_with fail
 refine Zaj (fun W0 hW0 => ?_)
 have hD : W0.heap[w.heap.size]? = some (.cells (cw N (fun _ => 0)) 27 (0, 0)) := by
  rw [hW0]
  exact Zaf _ _
 have HBW : Hid (Below w.heap.size w W0) := by
  show Below _ _ _
  rw [hW0]
  repeat first | exact Below.refl _ _ | (refine Below.alloc ?_ (by simp <;> omega) _)
 have hz0 : ∀ k, val (fun _ => 0) k = 0 := fun k => by
  induction k with
  | zero => rfl
  | succ k ih => simp [val, ih]
 have HI0 : Hid (QI W0 W0 w.heap.size n (limb X) (limb Y) (fun _ => 0) 0) := ⟨fun _ => by decide, fun _ _ => rfl, by rw [hz0]; simp [val], by rw [← HN.out]; exact hD, But.refl _ _⟩
 clear hW0 hD hmk hz0
 go_loopw [21] (fun i wr => ∃ (k : Nat) (g : Nat → Nat), k ≤ n ∧ i = .int .i64 k ∧ QI W0 wr w.heap.size n (limb X) (limb Y) g k) (fun i _ => n - (intOf i).toNat)
 case atStart => exact ⟨0, fun _ => 0, Nat.zero_le _, rfl, HI0.out⟩
 case round =>
  obtain ⟨i, g, hk, rfl, I⟩ := hrel
  have HI := hideP I
  clear I
  have hn := HH.out.2.2
  by_cases hlt : i < n
  ·
   have ca : wr.cell? ⟨g1, o1 + i, none⟩ = some (.int .u64 (limb X i)) := by
    rw [HI.out.but.cell (show g1 ≠ w.heap.size by omega), HBW.out.cell (p := ⟨g1, o1 + i, none⟩) l1]
    exact H1.out _ hlt
   have hlt' : (i : Int) < n := by omega
   have e4 : IntKind.i64.wrap ((i : Int) + 1) = (i : Int) + 1 := by rw [IntKind.wrap_i64]; omega
   have e5 : IntKind.i64.wrap ((i : Int) + (n : Int)) = ((i + n : Nat) : Int) := by rw [IntKind.wrap_i64]; omega
   have HKS : Hid (i + 1 ≤ n) := hlt
   have HR0 := hideP HI.out.row
   clear hk hlt hn
   go_wp2_with fail
   rename World => wA
   clear ca
   go_loopw [8, 28] (fun c kk wr => ∃ (k cv : Nat) (gk : Nat → Nat), k ≤ n ∧ kk = .int .i64 k ∧ c = .int .u64 cv ∧ RI W0 wr w.heap.size (n + n) i (limb X i) (limb Y) g gk k cv) (fun _ kk _ => n - (intOf kk).toNat)
   case atStart => exact ⟨0, 0, g, Nat.zero_le _, rfl, rfl, HR0.out⟩
   case round =>
    obtain ⟨k, cv, gk, hk, rfl, rfl, J⟩ := hrel
    have HJ := hideP J
    clear J
    have hn := HH.out.2.2
    have hin := HKS.out
    by_cases hlk : k < n
    ·
     have cb : wr.cell? ⟨g2, o2 + k, none⟩ = some (.int .u64 (limb Y k)) := by
      rw [HJ.out.but.cell (show g2 ≠ w.heap.size by omega), HBW.out.cell (p := ⟨g2, o2 + k, none⟩) l2]
      exact H2.out _ hlk
     have hNN := HN.out
     have cd := Zac HJ.out.cells (Zb2 gk (show i + k < n + n by omega))
     have fr : ∀ o, wr.frozen? ⟨w.heap.size, o, none⟩ = false := fun o => Zap HJ.out.cells
     have C := hideP (Zhp (limb X i) (limb Y k) (Zaz _ _) (Zaz _ _) wr)
     have hlk' : (k : Int) < n := by omega
     have e6 : IntKind.i64.wrap ((i : Int) + (k : Int)) = ((i + k : Nat) : Int) := by rw [IntKind.wrap_i64]; omega
     have e7 : IntKind.i64.wrap ((k : Int) + 1) = (k : Int) + 1 := by rw [IntKind.wrap_i64]; omega
     have g7 : ((i + k : Nat) : Int) < (N : Int) := by omega
     have HKK : Hid (k + 1 ≤ n) := hlk
     have hog := HJ.out.lt (i + k)
     have hcv := HJ.out.c
     have hxi := Zaz X i
     have hyk := Zaz Y k
     have HP := hideP (fun s c' hs hc e => HJ.out.put (s := s) (c' := c') hs hc e)
     generalize limb Y k = yk at *
     generalize limb X i = xi at *
     generalize gk (i + k) = ogk at *
     clear hk hlk hn hin HJ hNN e5
     generalize i + k = ik at *
     go_wp2_with fail
     refine C.out.mono ?_
     rintro r wB ⟨⟨h, l, rfl, hh, hl, he⟩, rfl⟩
     obtain ⟨l1', l2', h1', h2', q1, q2, q3, w1, w2, d1, d2⟩ := ZfG xi yk h l ogk cv hxi hyk hh hl he hog hcv
     have HP2 := hideP (HP.out _ _ q1 q2 q3)
     clear HP he hh hl q1 q2 q3 hog hcv hxi hyk C
     rcases d1 with ⟨d1, v1⟩ | ⟨d1, rfl⟩ <;> rcases d2 with ⟨d2, v2⟩ | ⟨d2, rfl⟩
     all_goals
      go_wp2_with fail
      exact ⟨⟨k + 1, _, _, HKK.out, by go_num, rfl, HP2.out⟩, by have := HKK.out; simp [intOf]; omega⟩
    ·
     have hkn : k = n := by omega
     have hnl : ¬ (k : Int) < n := by omega
     have HJn : Hid (RI W0 wr w.heap.size (n + n) i (limb X i) (limb Y) g gk n cv) := hkn ▸ HJ.out
     have HQ := hideP (HI.out.put HJn.out)
     have hNN := HN.out
     have cd := Zac HJn.out.cells (Zb2 gk (show i + n < n + n by omega))
     have fr : ∀ o, wr.frozen? ⟨w.heap.size, o, none⟩ = false := fun o => Zap HJn.out.cells
     have g7 : ((i + n : Nat) : Int) < (N : Int) := by omega
     clear hk hlk hn hin HJ HJn HI hNN HR0
     generalize i + n = inn at *
     go_wp2_with fail
     exact ⟨⟨i + 1, _, HKS.out, by go_num, HQ.out⟩, by have := HKS.out; simp [intOf]; omega⟩
  ·
   have hkn : i = n := by omega
   have hnl : ¬ (i : Int) < n := by omega
   have HJ : Hid (QI W0 wr w.heap.size n (limb X) (limb Y) g n) := hkn ▸ HI.out
   have HC : Hid (wr.heap[w.heap.size]? = some (.cells (cw N (limb (X * Y))) 27 (0, 0))) := by
    show _ = _
    rw [HN.out]
    have h1 := HJ.out.sum
    rw [Zal HH.out.1, Zal HH.out.2.1] at h1
    rw [← h1, ZeU (g := g) (fun j hj => Zcq (n + n) (fun j _ => HJ.out.lt j) hj)]
    exact HJ.out.cells
   have HB := hideP HJ.out.but.below
   clear hk hlt hn hkn HI HJ
   go_wp2
   go_ret
   exact ⟨⟨_, rfl, HC.out, Nat.le_refl _⟩, HBW.out.trans HB.out⟩
structure RW (w : World) (g N : Nat) (f : Nat → Nat) : Prop where
 ex : ∃ cur : Array Value, w.heap[g]? = some (.cells cur 27 (0, 0)) ∧ N ≤ cur.size ∧ ∀ j, j < N → cur[j]? = some (.int .u64 (f j))
theorem RW.lt {w : World} {g N : Nat} {f : Nat → Nat} (h : RW w g N f) : g < w.heap.size := by
 obtain ⟨cur, h1, _⟩ := h.ex
 exact Zab h1
theorem RW.cell {w : World} {g N : Nat} {f : Nat → Nat} (h : RW w g N f) {j : Nat} (hj : j < N) : w.cell? ⟨g, j, none⟩ = some (.int .u64 (f j)) := by
 obtain ⟨cur, h1, _, h3⟩ := h.ex
 exact Zac h1 (h3 j hj)
theorem RW.free {w : World} {g N : Nat} {f : Nat → Nat} (h : RW w g N f) (o : Nat) : w.frozen? ⟨g, o, none⟩ = false := by
 obtain ⟨cur, h1, _⟩ := h.ex
 exact Zap h1
theorem RW.set {w : World} {g N : Nat} {f : Nat → Nat} (h : RW w g N f) (k s : Nat) : RW (w.setCell ⟨g, k, none⟩ (.int .u64 s)) g N (fun j => if j = k then s else f j) := by
 obtain ⟨cur, h1, h2, h3⟩ := h.ex
 refine ⟨_, Zaw (o := k) h1 _, by rw [Array.size_setIfInBounds]; exact h2, fun j hj => ?_⟩
 rw [Array.getElem?_setIfInBounds]
 by_cases e : k = j
 ·
  subst e
  rw [if_pos rfl, if_pos rfl, if_pos (by omega)]
 ·
  rw [if_neg e, if_neg (fun h => e h.symm)]
  exact h3 j hj
theorem RW.heap {w w' : World} {g N : Nat} {f : Nat → Nat} (h : RW w g N f) (e : w'.heap[g]? = w.heap[g]?) : RW w' g N f := by
 obtain ⟨cur, h1, h2⟩ := h.ex
 exact ⟨cur, e.trans h1, h2⟩
def wl (N : Nat) (f : Nat → Nat) : List Value := (List.range N).map fun j => Value.int .u64 (f j)
theorem Zb3 (N : Nat) (f : Nat → Nat) : (wl N f).length = N := by simp [wl]
theorem ZdB {N j : Nat} {f : Nat → Nat} (h : j < N) : (wl N f)[j]? = some (.int .u64 (f j)) := by simp [wl, h]
theorem Ziq {N : Nat} {f : Nat → Nat} : ∀ u ∈ wl N f, u.oneCell' = true := by
 intro u hu
 unfold wl at hu
 simp only [List.mem_map] at hu
 obtain ⟨x, _, rfl⟩ := hu
 rfl
theorem Zk1 (w : World) (N : Nat) : w.ownsRow N 27 1 (.slice none 0 0) 0 [] := ⟨rfl, Or.inl ⟨rfl, rfl⟩⟩
theorem ZdC {w : World} {u : Value} {N : Nat} {f : Nat → Nat} (hN : 0 < N) (hN2 : N ≤ 64) (h : LW w u N f) :
  ∃ g cap w', (Builtin.append_ #[37, 37] 37 #[.slice none 0 0, u]).run Tryz.prog w = .ok (.slice (some ⟨g, 0, none⟩) N cap) w' ∧ w'.ownsRow w.heap.size 27 1 (.slice (some ⟨g, 0, none⟩) N cap) N (wl N f) ∧ Below w.heap.size w w' := by
 obtain ⟨i0, hi, hz0, hz1, hz2⟩ := info_parts Tryz.infoW
 obtain ⟨b, o, c, rfl, _, _, hb, hc⟩ := h.ex
 obtain ⟨v', w', hr, hO, hgr, hnn⟩ := run_append_own_wide (P := Tryz.prog) w w.heap.size 37 37 27 i0 (.int .u64 0) 1 8 Tryz.undL hi hz0 hz1 hz2 rfl (by omega) _ 0 _ (Zk1 w w.heap.size) ⟨b, o, none⟩ N c (wl N f) (by rw [Zb3, Nat.mul_one]) (fun j v hv => by
  have hj := (List.getElem?_eq_some_iff.1 hv).1
  rw [Zb3] at hj
  rw [ZdB hj] at hv
  rw [Addr.add_mid, hc j hj]
  exact hv) Ziq (by unfold maxLen; omega) (by omega) (Nat.le_refl _)
 rw [Nat.zero_add, List.nil_append] at hO
 have hB : Below w.heap.size w w' := (Below.refl _ w).grown hgr (Nat.le_refl _) (fun x hx => by cases hx)
 have hO2 := hO
 rcases hO with ⟨_, ⟨rfl, h0⟩ | ⟨g, cap, cur, rfl, _⟩⟩
 ·
  omega
 ·
  exact ⟨g, cap, w', hr, hO2, hB⟩
theorem ZeW {w0 w : World} {g cap N : Nat} {f : Nat → Nat} (hN2 : N ≤ 63) (h : w.ownsRow w0.heap.size 27 1 (.slice (some ⟨g, 0, none⟩) N cap) N (wl N f)) (hw : w0.heap.size ≤ w.heap.size) :
  ∃ g' cap' w', (Builtin.append_ #[37, 37] 37 #[.slice (some ⟨g, 0, none⟩) N cap, .slice (some ⟨w.heap.size, 0, none⟩) 1 1]).run Tryz.prog (w.alloc (.cells #[.int .u64 0] 27)) = .ok (.slice (some ⟨g', 0, none⟩) (N + 1) cap') w' ∧
   RW w' g' (N + 1) (fun j => if j < N then f j else 0) ∧ w0.heap.size ≤ g' ∧ N + 1 ≤ cap' ∧ cap' ≤ maxLen ∧ Below w0.heap.size w w' := by
 obtain ⟨i0, hi, hz0, hz1, hz2⟩ := info_parts Tryz.infoW
 have hB0 : Below w0.heap.size w (w.alloc (.cells #[.int .u64 0] 27)) := (Below.refl _ w).alloc hw _
 have hown : (w.alloc (.cells #[.int .u64 0] 27)).ownsRow w0.heap.size 27 1 (.slice (some ⟨g, 0, none⟩) N cap) N (wl N f) := by
  refine ⟨h.1, ?_⟩
  rcases h.2 with ⟨e, _⟩ | ⟨g2, cap2, cur, e, h1, h2, h3⟩
  ·
   cases e
  ·
   exact Or.inr ⟨g2, cap2, cur, e, h1, (Zah _ _ (Zab h2)).trans h2, h3⟩
 obtain ⟨v', w', hr, hO, hgr, _⟩ := run_append_own_wide (P := Tryz.prog) (w.alloc (.cells #[.int .u64 0] 27)) w0.heap.size 37 37 27 i0 (.int .u64 0) 1 8 Tryz.undL hi hz0 hz1 hz2 rfl (by omega) _ N _ hown ⟨w.heap.size, 0, none⟩ 1 1 [.int .u64 0] rfl (fun j v hv => by
  cases j with
  | zero =>
   cases hv
   rw [Addr.add_mid]
   exact Zac (Zaf w _) rfl
  | succ j => simp at hv) (by simp [Value.oneCell']) (by unfold maxLen; omega) (by omega) (by simp; omega)
 have hB : Below w0.heap.size (w.alloc (.cells #[.int .u64 0] 27)) w' := (Below.refl _ _).grown hgr (by simp; omega) (fun x hx => (hown.lt x hx).1)
 rcases hO with ⟨_, ⟨rfl, h0⟩ | ⟨g', cap', cur, rfl, h1, h2, h3, h4, h5, h6⟩⟩
 ·
  omega
 ·
  refine ⟨g', cap', w', hr, ⟨cur, h2, by omega, fun j hj => ?_⟩, h1, h3, h4, hB0.trans hB⟩
  rw [Nat.mul_one] at h6
  have e : cur[j]? = (cur.toList.take (N + 1))[j]? := by
   rw [List.getElem?_take, if_pos hj, Array.getElem?_toList]
  rw [e, h6]
  by_cases hjN : j < N
  ·
   rw [List.getElem?_append_left (by rw [Zb3]; exact hjN), ZdB hjN, if_pos hjN]
  ·
   rw [List.getElem?_append_right (by rw [Zb3]; omega), Zb3, if_neg hjN, show j - N = 0 by omega]
   rfl
theorem elemL : (sizeOf (Tryz.prog.elem 37)).run Tryz.prog = fun W => .ok 1 W := by
 funext W
 kernel_rfl
theorem sliceL : Tryz.prog.underlying 37 = some (.slice (Tryz.prog.elem 37)) := by kernel_rfl
theorem Zir (g N cap l k : Nat) (hl : l ≤ k) (hk : k ≤ N) (hc : N ≤ cap) (hlc : l < cap) (W : World) :
  (Instr.sliceAt 37 (.slice (some ⟨g, 0, none⟩) N cap) (some (.int .i64 (l : Int))) (some (.int .i64 (k : Int))) none).run Tryz.prog W = .ok (.slice (some ⟨g, l, none⟩) (k - l) (cap - l)) W := by
 rw [run_sliceAt_slice (P := Tryz.prog) (w := W) 37 _ _ _ _ sliceL, run_slice_lh (P := Tryz.prog) (w := W) 37 _ N cap sliceL .i64 .i64 (l : Int) (k : Int) (by omega) (by omega) (by omega), elemL]
 have h1 : ((l : Int)).toNat = l := by omega
 have h2 : ((k : Int)).toNat = k := by omega
 have h3 : ¬ cap = l := by omega
 simp [Result.andThen, sliced, h3, Zc7]
theorem Zis {V M fo B : Nat} (hf : (M % B * fo + 1) % B = 0) : (V + V % B * fo % B * M) % B = 0 := by
 have h1 : (V + V % B * fo % B * M) % B = (V * (M % B * fo + 1)) % B := by
  have e1 : (V % B * fo % B * M) % B = (V * (M % B * fo)) % B := by
   rw [Nat.mul_mod, Nat.mod_mod, ← Nat.mul_mod, Nat.mul_mod, Nat.mul_mod (V % B) fo, Nat.mod_mod, ← Nat.mul_mod V fo, ← Nat.mul_mod]
   rw [Nat.mul_mod V (M % B * fo), Nat.mul_mod (M % B) fo, Nat.mod_mod, ← Nat.mul_mod M fo, ← Nat.mul_mod]
   congr 1
   grind
  rw [Nat.add_mod, e1, ← Nat.add_mod]
  congr 1
  grind
 rw [h1, Nat.mul_mod, hf, Nat.mul_zero, Nat.zero_mod]
theorem Zit {V A M q t i fo : Nat} (hf : (M % 18446744073709551616 * fo + 1) % 18446744073709551616 = 0) (hz : V % 18446744073709551616 ^ i = 0) (hV : V = A + q * M) (hq : q < 18446744073709551616 ^ i)
  (ht : t = V / 18446744073709551616 ^ i % 18446744073709551616 * fo % 18446744073709551616) :
  (V + t * M * 18446744073709551616 ^ i) % 18446744073709551616 ^ (i + 1) = 0 ∧ V + t * M * 18446744073709551616 ^ i = A + (q + t * 18446744073709551616 ^ i) * M ∧ q + t * 18446744073709551616 ^ i < 18446744073709551616 ^ (i + 1) := by
 have htl : t < 18446744073709551616 := by rw [ht]; exact Nat.mod_lt _ (by decide)
 have hd := Nat.div_add_mod V (18446744073709551616 ^ i)
 rw [hz, Nat.add_zero] at hd
 have hfz := Zis (V := V / 18446744073709551616 ^ i) hf
 rw [← ht] at hfz
 rw [Nat.pow_succ]
 generalize 18446744073709551616 ^ i = P at *
 generalize V / P = V1 at *
 refine ⟨?_, ?_, ?_⟩
 ·
  rw [← hd, show P * V1 + t * M * P = P * (V1 + t * M) by grind, Nat.mul_mod_mul_left, hfz, Nat.mul_zero]
 ·
  rw [hV]; grind
 ·
  have := Nat.mul_le_mul_right P (show t + 1 ≤ 18446744073709551616 by omega)
  rw [Nat.add_mul, Nat.one_mul] at this
  rw [Nat.mul_comm P]
  omega
theorem Ziu (g : Nat → Nat) (j s : Nat) : ∀ N, j < N → val (fun i => if i = j then s else g i) N + g j * 18446744073709551616 ^ j = val g N + s * 18446744073709551616 ^ j
 | 0, h => absurd h (by omega)
 | N + 1, h => by
  show val (fun i => if i = j then s else g i) N + (if N = j then s else g N) * 18446744073709551616 ^ N + g j * 18446744073709551616 ^ j = val g N + g N * 18446744073709551616 ^ N + s * 18446744073709551616 ^ j
  by_cases e : N = j
  ·
   subst e
   rw [if_pos rfl, Za0 (g := g) N (fun i hi => by rw [if_neg (by omega)])]
   omega
  ·
   rw [if_neg e]
   have := Ziu g j s N (by omega)
   omega
structure RJ (W wr : World) (D N i t : Nat) (y g0 gk : Nat → Nat) (k c : Nat) : Prop where
 lt : ∀ j, gk j < 18446744073709551616
 old : ∀ j, i + k ≤ j → gk j = g0 j
 sum : val gk (i + k) + 18446744073709551616 ^ (i + k) * c = val g0 (i + k) + t * val y k * 18446744073709551616 ^ i
 c : c < 18446744073709551616
 row : RW wr D N gk
 but : But D W wr
theorem RJ.put {W wr : World} {D N i t : Nat} {y g0 gk : Nat → Nat} {k c s c' : Nat} (I : RJ W wr D N i t y g0 gk k c) (hs : s < 18446744073709551616) (hc : c' < 18446744073709551616)
  (e : t * y k + gk (i + k) + c = s + 18446744073709551616 * c') :
  RJ W (wr.setCell ⟨D, i + k, none⟩ (.int .u64 s)) D N i t y g0 (fun j => if j = i + k then s else gk j) (k + 1) c' := by
 refine ⟨fun j => ?_, fun j hj => ?_, ?_, hc, I.row.set _ _, I.but.set _ _⟩
 ·
  split
  ·
   exact hs
  ·
   exact I.lt j
 ·
  rw [if_neg (by omega)]
  exact I.old j (by omega)
 ·
  have h1 : val (fun j => if j = i + k then s else gk j) (i + k) = val gk (i + k) := Za0 _ (fun j hj => by rw [if_neg (by omega)])
  have h3 := I.old (i + k) (Nat.le_refl _)
  rw [h3] at e
  show val (fun j => if j = i + k then s else gk j) (i + k) + (if i + k = i + k then s else gk (i + k)) * 18446744073709551616 ^ (i + k) + 18446744073709551616 ^ (i + k + 1) * c' = val g0 (i + k) + g0 (i + k) * 18446744073709551616 ^ (i + k) + t * (val y k + y k * 18446744073709551616 ^ k) * 18446744073709551616 ^ i
  rw [h1, if_pos rfl, Nat.pow_succ]
  have h2 := I.sum
  rw [Nat.pow_add] at h2 ⊢
  generalize 18446744073709551616 ^ i = P at *
  generalize 18446744073709551616 ^ k = Q at *
  generalize val gk (i + k) = a at *
  generalize val g0 (i + k) = b at *
  generalize g0 (i + k) = d at *
  generalize y k = yk at *
  generalize val y k = vy at *
  have e2 : (t * yk + d + c) * (P * Q) = (s + 18446744073709551616 * c') * (P * Q) := by rw [e]
  grind
theorem RJ.drew {W wr : World} {D N i t : Nat} {y g0 gk : Nat → Nat} {k c : Nat} (I : RJ W wr D N i t y g0 gk k c) : RJ W wr.drew D N i t y g0 gk k c :=
 ⟨I.lt, I.old, I.sum, I.c, I.row.heap rfl, I.but.drew⟩
structure CJ (W wr : World) (D N T : Nat) (gk : Nat → Nat) (j c : Nat) : Prop where
 lt : ∀ j, gk j < 18446744073709551616
 sum : val gk N + 18446744073709551616 ^ j * c = T
 c : c < 18446744073709551616
 row : RW wr D N gk
 but : But D W wr
theorem RJ.carry {W wr : World} {D N i t n : Nat} {y g0 gk : Nat → Nat} {c : Nat} (I : RJ W wr D N i t y g0 gk n c) (hN : i + n ≤ N) : CJ W wr D N (val g0 N + t * val y n * 18446744073709551616 ^ i) gk (i + n) c := by
 refine ⟨I.lt, ?_, I.c, I.row, I.but⟩
 obtain ⟨m, rfl⟩ : ∃ m, N = (i + n) + m := ⟨N - (i + n), by omega⟩
 have h := I.sum
 rw [ZeL gk, ZeL g0, Za0 (f := fun j => gk (i + n + j)) (g := fun j => g0 (i + n + j)) m (fun j _ => I.old _ (by omega))]
 omega
theorem CJ.put {W wr : World} {D N T : Nat} {gk : Nat → Nat} {j c s c' : Nat} (I : CJ W wr D N T gk j c) (hj : j < N) (hs : s < 18446744073709551616) (hc : c' < 18446744073709551616)
  (e : gk j + c = s + 18446744073709551616 * c') : CJ W (wr.setCell ⟨D, j, none⟩ (.int .u64 s)) D N T (fun i => if i = j then s else gk i) (j + 1) c' := by
 refine ⟨fun k => ?_, ?_, hc, I.row.set _ _, I.but.set _ _⟩
 ·
  split
  ·
   exact hs
  ·
   exact I.lt k
 ·
  have h1 := Ziu gk j s N hj
  have h2 := I.sum
  have e2 : (gk j + c) * 18446744073709551616 ^ j = (s + 18446744073709551616 * c') * 18446744073709551616 ^ j := by rw [e]
  rw [Nat.pow_succ]
  generalize 18446744073709551616 ^ j = P at *
  generalize val gk N = a at *
  generalize val (fun i => if i = j then s else gk i) N = b at *
  generalize gk j = d at *
  grind
theorem CJ.done {W wr : World} {D N T : Nat} {gk : Nat → Nat} {j c : Nat} (I : CJ W wr D N T gk j c) (hT : T < 18446744073709551616 ^ N) (h : c = 0 ∨ N ≤ j) : val gk N = T := by
 have h1 := I.sum
 rcases h with rfl | h
 ·
  rw [Nat.mul_zero, Nat.add_zero] at h1
  exact h1
 ·
  have h2 : 18446744073709551616 ^ N ≤ 18446744073709551616 ^ j := Nat.pow_le_pow_right (by decide) h
  rcases Nat.eq_zero_or_pos c with rfl | hc
  ·
   rw [Nat.mul_zero, Nat.add_zero] at h1
   exact h1
  ·
   have h3 := Nat.mul_le_mul_left (18446744073709551616 ^ j) hc
   omega
structure OI (W wr : World) (D N A M : Nat) (g : Nat → Nat) (i : Nat) : Prop where
 lt : ∀ j, g j < 18446744073709551616
 z : val g N % 18446744073709551616 ^ i = 0
 q : ∃ q, q < 18446744073709551616 ^ i ∧ val g N = A + q * M
 row : RW wr D N g
 but : But D W wr
theorem OI.start {W wr : World} {D N A M i t : Nat} {y g : Nat → Nat} (I : OI W wr D N A M g i) : RJ W wr D N i t y g g 0 0 :=
 ⟨I.lt, fun _ _ => rfl, by simp [val], by decide, I.row, I.but⟩
theorem Zk2 {g : Nat → Nat} {N i : Nat} (hg : ∀ j, g j < 18446744073709551616) (hi : i < N) : val g N / 18446744073709551616 ^ i % 18446744073709551616 = g i := by
 have := Zcq N (fun j _ => hg j) hi
 unfold limb at this
 exact this
theorem OI.next {W wr wr' : World} {D n N A M fo t j c : Nat} {g gk : Nat → Nat} {i : Nat} (I : OI W wr D N A M g i) (hN : N = n + n + 1) (hi : i < n) (hM : M < 18446744073709551616 ^ n) (hA : A < M * 18446744073709551616 ^ n)
  (hf : (M % 18446744073709551616 * fo + 1) % 18446744073709551616 = 0) (ht : t = g i * fo % 18446744073709551616) (J : CJ W wr' D N (val g N + t * M * 18446744073709551616 ^ i) gk j c) (hd : c = 0 ∨ N ≤ j) : OI W wr' D N A M gk (i + 1) := by
 obtain ⟨q, hq, hV⟩ := I.q
 have h1 := Zit (t := t) hf I.z hV hq (by rw [Zk2 I.lt (by omega)]; exact ht)
 have hT : val g N + t * M * 18446744073709551616 ^ i < 18446744073709551616 ^ N := by
  rw [h1.2.1]
  have hq2 : q + t * 18446744073709551616 ^ i < 18446744073709551616 ^ n := Nat.lt_of_lt_of_le h1.2.2 (Nat.pow_le_pow_right (by decide) hi)
  rw [hN, Nat.pow_succ, Nat.pow_add]
  generalize q + t * 18446744073709551616 ^ i = qq at *
  generalize 18446744073709551616 ^ n = P at *
  have a1 : qq * M ≤ P * M := Nat.mul_le_mul_right _ (by omega)
  have a2 : M * P ≤ P * P := Nat.mul_le_mul_right _ (by omega)
  have a3 : P * M ≤ P * P := Nat.mul_le_mul_left _ (by omega)
  omega
 have hv := J.done hT hd
 exact ⟨J.lt, by rw [hv]; exact h1.1, ⟨_, h1.2.2, by rw [hv]; exact h1.2.1⟩, J.row, J.but⟩
theorem OI.fin {W wr : World} {D n N A M : Nat} {g : Nat → Nat} (I : OI W wr D N A M g n) (hN : N = n + n + 1) (h0 : 0 < M) (hA : A < M * 18446744073709551616 ^ n) :
  ∃ S, S < 2 * M ∧ S * 18446744073709551616 ^ n % M = A % M ∧ S = val (fun j => g (n + j)) n + g (n + n) * 18446744073709551616 ^ n := by
 obtain ⟨q, hq, hV⟩ := I.q
 have hz := I.z
 have e : val g N = val g n + (val (fun j => g (n + j)) n + g (n + n) * 18446744073709551616 ^ n) * 18446744073709551616 ^ n := by
  rw [hN]
  show val g (n + n) + g (n + n) * 18446744073709551616 ^ (n + n) = _
  rw [ZeL g n n, Nat.pow_add]
  grind
 have hl := ZbK n (fun j _ => I.lt j)
 have hg0 : val g n = 0 := by
  rw [e, Nat.add_mul_mod_self_right, Nat.mod_eq_of_lt hl] at hz
  exact hz
 rw [hg0, Nat.zero_add] at e
 refine ⟨val (fun j => g (n + j)) n + g (n + n) * 18446744073709551616 ^ n, ?_, ?_, rfl⟩
 ·
  generalize val (fun j => g (n + j)) n + g (n + n) * 18446744073709551616 ^ n = S at *
  generalize 18446744073709551616 ^ n = P at *
  apply Nat.lt_of_mul_lt_mul_right (a := P)
  rw [← e, hV, Nat.mul_assoc]
  have a1 : q * M < M * P := by rw [Nat.mul_comm M]; exact Nat.mul_lt_mul_of_pos_right hq h0
  omega
 ·
  rw [← e, hV, Nat.add_mul_mod_self_right]
theorem Ziv (g c : Nat) (hg : g < 18446744073709551616) (hc : c < 18446744073709551616) : ∃ s c' : Nat, s < 18446744073709551616 ∧ c' < 18446744073709551616 ∧ g + c = s + 18446744073709551616 * c' ∧ IntKind.u64.wrap ((g : Int) + (c : Int)) = (s : Int) ∧ (((s : Int) < (c : Int) ∧ c' = 1) ∨ (¬ (s : Int) < (c : Int) ∧ c' = 0)) := by
 simp only [IntKind.wrap_u64]
 by_cases h : g + c < 18446744073709551616
 ·
  exact ⟨g + c, 0, by omega, by omega, by omega, by omega, by omega⟩
 ·
  exact ⟨g + c - 18446744073709551616, 1, by omega, by omega, by omega, by omega, by omega⟩
theorem ZdD {n : Nat} (h1n : 0 < n) (hn : n ≤ 8) (A M fo : Nat) (hM : M < 18446744073709551616 ^ n) (h0 : 0 < M) (hA : A < M * 18446744073709551616 ^ n) (hf : (M % 18446744073709551616 * fo + 1) % 18446744073709551616 = 0) (w : World) (u mv tv : Value) (hu : LW w u (n + n) (limb A)) (hm : LW w mv n (limb M)) :
  Calls Tryz.prog 247 #[.agg #[mv, .int .u64 fo, tv], u] w fun r w' => (∃ v', r = .returned v' ∧ ∃ P, LW w' v' n (limb P) ∧ P < M ∧ P * 18446744073709551616 ^ n % M = A % M) ∧ Below w.heap.size w w' := by
 obtain ⟨g2, o2, c2, rfl, _, _, l2, h2⟩ := hm.ex
 have H2 := hideP h2
 have HM := hideP hm
 have HU := hideP hu
 have HH : Hid (0 < n ∧ n ≤ 8 ∧ M < 18446744073709551616 ^ n ∧ 0 < M ∧ A < M * 18446744073709551616 ^ n ∧ (M % 18446744073709551616 * fo + 1) % 18446744073709551616 = 0) := ⟨h1n, hn, hM, h0, hA, hf⟩
 clear h2 hu hm hM h0 hA hf h1n hn
 go_enter Tryz.func247, Tryz.ntmps247
 refine Zae (fun K0 HK0 => ?_)
 go_wp2_with fail
 refine HK0.out _ _ ?_
 refine Zaj (fun W0 hW0 => ?_)
 have hF : W0.heap[w.heap.size]? = some (.cells #[.slice (some ⟨g2, o2, none⟩) n c2, .int .u64 fo, tv] 39 (0, 0)) := by
  rw [hW0]
  exact Zaf _ _
 have HBW : Hid (Below w.heap.size w W0) := by
  show Below _ _ _
  rw [hW0]
  repeat first | exact Below.refl _ _ | (refine Below.alloc ?_ (by simp <;> omega) _)
 have hWs : W0.heap.size = w.heap.size + 1 := by rw [hW0]; simp
 clear hW0
 have f0 := Zac (o := 0) hF rfl
 have f1 := Zac (o := 1) hF rfl
 obtain ⟨h1n, hn, hM, h0, hA, hf⟩ := HH.out
 obtain ⟨ga, ca, w1, hr1, hO1, hb1⟩ := ZdC (N := n + n) (by omega) (by omega) (HU.out.moved HBW.out)
 obtain ⟨D, cap, w2, hr2, hRW, hDg, hcap, hcm, hb2⟩ := ZeW (w0 := W0) (by omega) hO1 hb1.size
 have hb := hb1.trans hb2
 obtain ⟨N, hN⟩ : ∃ N, N = n + n + 1 := ⟨_, rfl⟩
 obtain ⟨NN, hNN⟩ : ∃ NN, NN = n + n := ⟨_, rfl⟩
 have HF2 := hideP ((hb.block _ (Zab hF)).trans hF)
 have HB2 := hideP (HBW.out.trans (hb.mono HBW.out.size))
 have HOI : Hid (OI w2 w2 D N A M (fun j => if j < n + n then limb A j else 0) 0) := by
  have hAl : A < 18446744073709551616 ^ (n + n) := by
   rw [Nat.pow_add]
   exact Nat.lt_of_lt_of_le hA (Nat.mul_le_mul_right _ (Nat.le_of_lt hM))
  have hv : val (fun j => if j < n + n then limb A j else 0) N = A := by
   rw [hN]
   show val (fun j => if j < n + n then limb A j else 0) (n + n) + (if n + n < n + n then limb A (n + n) else 0) * 18446744073709551616 ^ (n + n) = A
   rw [if_neg (by omega), Nat.zero_mul, Nat.add_zero, Za0 (g := limb A) _ (fun j hj => by rw [if_pos hj]), Zal hAl]
  refine ⟨fun j => ?_, by rw [Nat.pow_zero, Nat.mod_one], ⟨0, by decide, by rw [hv]; omega⟩, by rw [hN]; exact hRW, But.refl _ _⟩
  split
  ·
   exact Zaz _ _
  ·
   decide
 have hDF : D ≠ w.heap.size := by omega
 have HX : Hid (w.heap.size < D ∧ N ≤ cap ∧ cap ≤ maxLen ∧ N = n + n + 1 ∧ NN = n + n) := ⟨by omega, by omega, hcm, hN, hNN⟩
 rw [← hN] at hr2
 rw [← hNN] at hr1 hr2
 clear h1n hn hM h0 hA hf hF hO1 hRW hDg hcap hcm hb1 hb2 hb hN hNN hWs HU HBW
 go_wp2_with (first | refine ZaQ rfl _ _ 37 rfl rfl rfl rfl hr1 ?_ | refine ZaQ rfl _ _ 37 rfl rfl rfl rfl hr2 ?_)
 clear hr1 hr2 f0 f1
 go_loopw [7] (fun iv wr => ∃ (i : Nat) (g : Nat → Nat), i ≤ n ∧ iv = .int .i64 i ∧ OI w2 wr D N A M g i) (fun iv _ => n - (intOf iv).toNat)
 case atStart => exact ⟨0, _, Nat.zero_le _, rfl, HOI.out⟩
 case round =>
  obtain ⟨i, g, hk, rfl, I⟩ := hrel
  have HI := hideP I
  clear I
  have hn := HH.out.2.1
  have hx := HX.out
  by_cases hlt : i < n
  ·
   have ca : wr.cell? ⟨D, i, none⟩ = some (.int .u64 (g i)) := HI.out.row.cell (by omega)
   have f1 : wr.cell? ⟨w.heap.size, 1, none⟩ = some (.int .u64 fo) := Zac ((HI.out.but.same _ hDF.symm).trans HF2.out) rfl
   have f0 : wr.cell? ⟨w.heap.size, 0, none⟩ = some (.slice (some ⟨g2, o2, none⟩) n c2) := Zac ((HI.out.but.same _ hDF.symm).trans HF2.out) rfl
   have hlt' : (i : Int) < n := by omega
   have hiN : (i : Int) < N := by omega
   have ht : IntKind.u64.wrap ((g i : Int) * (fo : Int)) = ((g i * fo % 18446744073709551616 : Nat) : Int) := by rw [M64.mulN, M64.wrapM]
   have HT : Hid (g i * fo % 18446744073709551616 < 18446744073709551616) := Nat.mod_lt _ (by decide)
   obtain ⟨t, hte⟩ : ∃ t, t = g i * fo % 18446744073709551616 := ⟨_, rfl⟩
   rw [← hte] at ht HT
   have HTE := hideP hte
   have HR0 := hideP (HI.out.start (t := t) (y := limb M)).drew
   have e4 : IntKind.i64.wrap ((i : Int) + 1) = (i : Int) + 1 := by rw [IntKind.wrap_i64]; omega
   obtain ⟨inn, hinn⟩ : ∃ inn, inn = i + n := ⟨_, rfl⟩
   have e5 : IntKind.i64.wrap ((i : Int) + (n : Int)) = (inn : Int) := by rw [IntKind.wrap_i64]; omega
   have HIN := hideP hinn
   have HKS : Hid (i + 1 ≤ n) := hlt
   have HGI : Hid (∀ j, g j < 18446744073709551616) := HI.out.lt
   generalize hgi : g i = gi at ca ht
   clear hk hlt hn hx hte hinn hgi
   go_wp2_with fail
   go_region
   go_wp2_with fail
   clear ca ht f1
   rename World => wA
   go_loopw [9, 10] (fun c kk wr => ∃ (k cv : Nat) (gk : Nat → Nat), k ≤ n ∧ kk = .int .i64 k ∧ c = .int .u64 cv ∧ RJ w2 wr D N i t (limb M) g gk k cv) (fun _ kk _ => n - (intOf kk).toNat)
   case atStart => exact ⟨0, 0, g, Nat.zero_le _, rfl, rfl, HR0.out⟩
   case round =>
    obtain ⟨k, cv, gk, hk, rfl, rfl, J⟩ := hrel
    have HJ := hideP J
    clear J
    have hn := HH.out.2.1
    have hin := HKS.out
    have hx := HX.out
    by_cases hlk : k < n
    ·
     have cb : wr.cell? ⟨g2, o2 + k, none⟩ = some (.int .u64 (limb M k)) := by
      rw [HJ.out.but.cell (show g2 ≠ D by omega), HB2.out.cell (p := ⟨g2, o2 + k, none⟩) l2]
      exact H2.out _ hlk
     have f0 : wr.cell? ⟨w.heap.size, 0, none⟩ = some (.slice (some ⟨g2, o2, none⟩) n c2) := Zac ((HJ.out.but.same _ hDF.symm).trans HF2.out) rfl
     have cd : wr.cell? ⟨D, i + k, none⟩ = some (.int .u64 (gk (i + k))) := HJ.out.row.cell (by omega)
     have fr : ∀ o, wr.frozen? ⟨D, o, none⟩ = false := fun o => HJ.out.row.free o
     have C := hideP (Zhp t (limb M k) HT.out (Zaz _ _) wr)
     have hlk' : (k : Int) < n := by omega
     have e6 : IntKind.i64.wrap ((i : Int) + (k : Int)) = ((i + k : Nat) : Int) := by rw [IntKind.wrap_i64]; omega
     have e7 : IntKind.i64.wrap ((k : Int) + 1) = (k : Int) + 1 := by rw [IntKind.wrap_i64]; omega
     have g7 : ((i + k : Nat) : Int) < (N : Int) := by omega
     have HKK : Hid (k + 1 ≤ n) := hlk
     have hog := HJ.out.lt (i + k)
     have hcv := HJ.out.c
     have htl := HT.out
     have hyk := Zaz M k
     have HP := hideP (fun s c' hs hc e => HJ.out.put (s := s) (c' := c') hs hc e)
     generalize limb M k = yk at *
     generalize gk (i + k) = ogk at *
     clear hk hlk hn hin HJ e5 hx
     generalize i + k = ik at *
     go_wp2_with fail
     refine C.out.mono ?_
     rintro r wB ⟨⟨h, l, rfl, hh, hl, he⟩, rfl⟩
     obtain ⟨l1', l2', h1', h2', q1, q2, q3, w1', w2', d1, d2⟩ := ZfG t yk h l ogk cv htl hyk hh hl he hog hcv
     have HP2 := hideP (HP.out _ _ q1 q2 q3)
     clear HP he hh hl q1 q2 q3 hog hcv htl hyk C
     rcases d1 with ⟨d1, v1⟩ | ⟨d1, rfl⟩ <;> rcases d2 with ⟨d2, v2⟩ | ⟨d2, rfl⟩
     all_goals
      go_wp2_with fail
      exact ⟨⟨k + 1, _, _, HKK.out, by go_num, rfl, HP2.out⟩, by have := HKK.out; simp [intOf]; omega⟩
    ·
     have hkn : k = n := by omega
     have hnl : ¬ (k : Int) < n := by omega
     have HJn : Hid (RJ w2 wr D N i t (limb M) g gk n cv) := hkn ▸ HJ.out
     have hC0 := HJn.out.carry (show i + n ≤ N by omega)
     rw [Zal HH.out.2.2.1, ← HIN.out] at hC0
     have HC0 := hideP hC0
     clear hC0 hk hlk hn hin HJ HJn hx
     go_wp2_with fail
     rename World => wB
     go_loopw [9, 13] (fun c jj wr => ∃ (j cv : Nat) (gk : Nat → Nat), j ≤ N ∧ jj = .int .i64 j ∧ c = .int .u64 cv ∧ CJ w2 wr D N (val g N + t * M * 18446744073709551616 ^ i) gk j cv) (fun _ jj _ => N - (intOf jj).toNat)
     case atStart => exact ⟨inn, cv, gk, by have := HIN.out; have := HX.out; have := HKS.out; omega, rfl, rfl, HC0.out⟩
     case round =>
      obtain ⟨j, cj, gj, hj, rfl, rfl, J⟩ := hrel
      have HJ := hideP J
      clear J
      have hx := HX.out
      have hn := HH.out.2.1
      by_cases hgo : cj ≠ 0 ∧ j < N
      ·
       obtain ⟨hc0, hjN⟩ := hgo
       have hc0' : ¬ (cj : Int) = 0 := by omega
       have hjN' : (j : Int) < N := by omega
       obtain ⟨s, c', q1, q2, q3, w1', d⟩ := Ziv (gj j) cj (HJ.out.lt j) HJ.out.c
       have ca : wr.cell? ⟨D, j, none⟩ = some (.int .u64 (gj j)) := HJ.out.row.cell hjN
       have fr : ∀ o, wr.frozen? ⟨D, o, none⟩ = false := fun o => HJ.out.row.free o
       have HP2 := hideP (HJ.out.put hjN q1 q2 q3)
       have e7 : IntKind.i64.wrap ((j : Int) + 1) = (j : Int) + 1 := by rw [IntKind.wrap_i64]; omega
       have HJS : Hid (j + 1 ≤ N) := hjN
       generalize gj j = ggj at *
       clear hj hn hx HJ q1 q2 q3 hc0 hjN e5
       rcases d with ⟨d1, rfl⟩ | ⟨d1, rfl⟩
       all_goals
        go_wp2_with fail
        exact ⟨⟨j + 1, _, _, HJS.out, by go_num, rfl, HP2.out⟩, by have := HJS.out; simp [intOf]; omega⟩
      ·
       have hdn : cj = 0 ∨ N ≤ j := by omega
       have HNX := hideP (HI.out.next HX.out.2.2.2.1 HKS.out HH.out.2.2.1 HH.out.2.2.2.2.1 HH.out.2.2.2.2.2 HTE.out HJ.out hdn)
       by_cases hc0 : cj = 0
       ·
        subst hc0
        clear hj hn hx HJ hgo hdn e5
        go_wp2_with fail
        exact ⟨⟨i + 1, _, HKS.out, by go_num, HNX.out⟩, by have := HKS.out; simp [intOf]; omega⟩
       ·
        have hc0' : ¬ (cj : Int) = 0 := by omega
        have hjN' : ¬ (j : Int) < N := by omega
        clear hj hn hx HJ hgo hdn e5 hc0
        go_wp2_with fail
        exact ⟨⟨i + 1, _, HKS.out, by go_num, HNX.out⟩, by have := HKS.out; simp [intOf]; omega⟩
  ·
   have hkn : i = n := by omega
   have hnl : ¬ (i : Int) < n := by omega
   have HJ : Hid (OI w2 wr D N A M g n) := hkn ▸ HI.out
   obtain ⟨S, hS1, hS2, hS3⟩ := HJ.out.fin hx.2.2.2.1 HH.out.2.2.2.1 HH.out.2.2.2.2.1
   have hM := HH.out.2.2.1
   have hZl : val (fun j => g (n + j)) n < 18446744073709551616 ^ n := ZbK n (fun j _ => HJ.out.lt _)
   have HL : Hid (LW wr (.slice (some ⟨D, n, none⟩) n (cap - n)) n (limb (val (fun j => g (n + j)) n))) :=
    LW.num (f := fun j => g (n + j)) ⟨D, n, cap - n, rfl, by omega, by omega, HJ.out.row.lt, fun j hj => HJ.out.row.cell (by omega)⟩ (fun j => HJ.out.lt _)
   have hbw := HB2.out.trans (HJ.out.but.below.mono (by omega : w.heap.size ≤ D))
   have HMr := hideP (HM.out.moved hbw)
   have HB3 := hideP hbw
   have hsl : ∀ W : World, (Instr.sliceAt 37 (.slice (some ⟨D, 0, none⟩) N cap) (some (.int .i64 (n : Int))) (some (.int .i64 (NN : Int))) none).run Tryz.prog W = .ok (.slice (some ⟨D, n, none⟩) n (cap - n)) W := fun W => by
    have := Zir D N cap n NN (by omega) (by omega) (by omega) (by omega) W
    rw [show NN - n = n by omega] at this
    exact this
   have e2n : IntKind.i64.wrap (2 * (n : Int)) = (NN : Int) := by rw [IntKind.wrap_i64]; omega
   have gNN : (NN : Int) < N := by omega
   have ct : wr.cell? ⟨D, NN, none⟩ = some (.int .u64 (g (n + n))) := by rw [hx.2.2.2.2]; exact HJ.out.row.cell (by omega)
   have f0 : wr.cell? ⟨w.heap.size, 0, none⟩ = some (.slice (some ⟨g2, o2, none⟩) n c2) := Zac ((HJ.out.but.same _ hDF.symm).trans HF2.out) rfl
   have HFr := hideP ((HJ.out.but.same _ hDF.symm).trans HF2.out)
   generalize val (fun j => g (n + j)) n = Z at *
   generalize g (n + n) = top at *
   generalize hP : 18446744073709551616 ^ n = P at *
   have hps : ∀ X, (X + M) * P % M = X * P % M := fun X => by rw [Nat.add_mul, Nat.mul_comm M P, Nat.add_mul_mod_self_right]
   generalize cap - n = cn at *
   have hn' := HH.out.2.1
   by_cases htop : top = 0
   ·
    subst htop
    have hSZ : S = Z := by omega
    subst hSZ
    have C2 := hideP (ZeV hn' S M (by rw [hP]; exact hZl) (by rw [hP]; exact hM) wr _ _ HL.out HMr.out)
    by_cases hltM : S < M
    ·
     rw [decide_eq_true hltM] at C2
     have HR : Hid (S < M ∧ S * P % M = A % M) := ⟨hltM, hS2⟩
     rw [← hP] at HR
     clear hk hlt hn hkn HI HJ hS1 hS2 hS3 hM hZl hbw hP hps hn' hltM hx HH HX HM
     go_wp2_with fail
     refine C2.out.mono ?_
     rintro r w5 ⟨rfl, hb⟩
     have HB5 := hideP (HB3.out.trans (hb.mono HB3.out.size))
     have HL5 := hideP (HL.out.moved hb)
     clear hb
     go_wp2
     go_ret
     exact ⟨⟨_, rfl, S, HL5.out, HR.out⟩, HB5.out⟩
    ·
     rw [decide_eq_false hltM] at C2
     have hpd := hps (S - M)
     rw [show S - M + M = S by omega] at hpd
     have HR : Hid (S - M < M ∧ (S - M) * P % M = A % M) := ⟨by omega, by rw [← hpd]; exact hS2⟩
     rw [← hP] at HR
     have C3 := hideP (fun w5 (h1 : LW w5 (.slice (some ⟨D, n, none⟩) n cn) n (limb S)) (h2 : LW w5 (.slice (some ⟨g2, o2, none⟩) n c2) n (limb M)) => ZbG hn' S M (by rw [hP]; exact hZl) (by rw [hP]; exact hM) w5 _ _ h1 h2)
     rw [if_neg hltM] at C3
     clear hk hlt hn hkn HI HJ hS1 hS2 hS3 hM hZl hbw hP hps hn' hltM hx HH HX HM hpd
     go_wp2_with fail
     refine C2.out.mono ?_
     rintro r w5 ⟨rfl, hb⟩
     have HB5 := hideP (HB3.out.trans (hb.mono HB3.out.size))
     have HL5 := hideP (HL.out.moved hb)
     have HM5 := hideP (HMr.out.moved hb)
     have f5 : w5.cell? ⟨w.heap.size, 0, none⟩ = some (.slice (some ⟨g2, o2, none⟩) n c2) := Zac ((hb.block _ (Zab HFr.out)).trans HFr.out) rfl
     clear hb
     go_wp2_with fail
     refine (C3.out _ HL5.out HM5.out).mono ?_
     rintro r w6 ⟨⟨v6, c6, rfl, h6, -⟩, hb⟩
     have HB6 := hideP (HB5.out.trans (hb.mono HB5.out.size))
     have HL6 := hideP h6
     clear hb h6
     go_wp2
     go_ret
     exact ⟨⟨_, rfl, _, HL6.out, HR.out⟩, HB6.out⟩
   ·
    have htop' : ¬ (top : Int) = 0 := by omega
    have ht1 : top = 1 := by
     rcases Nat.lt_or_ge top 2 with h | h
     ·
      omega
     ·
      have := Nat.mul_le_mul_right P h
      omega
    rw [ht1, Nat.one_mul] at hS3
    have hZM : Z < M := by omega
    have hpd := hps (S - M)
    rw [show S - M + M = S by omega] at hpd
    have HR : Hid (S - M < M ∧ (S - M) * P % M = A % M) := ⟨by omega, by rw [← hpd]; exact hS2⟩
    rw [← hP] at HR
    have C3 := hideP (ZbG hn' Z M (by rw [hP]; exact hZl) (by rw [hP]; exact hM) wr _ _ HL.out HMr.out)
    rw [if_pos hZM, hP, show Z + P - M = S - M by omega] at C3
    clear hk hlt hn hkn HI HJ hS1 hS2 hS3 hM hZl hbw hP hps hn' hx HH HX HM hpd htop ht1 hZM
    go_wp2_with fail
    refine C3.out.mono ?_
    rintro r w6 ⟨⟨v6, c6, rfl, h6, -⟩, hb⟩
    have HB6 := hideP (HB3.out.trans (hb.mono HB3.out.size))
    have HL6 := hideP h6
    clear hb h6
    go_wp2
    go_ret
    exact ⟨⟨_, rfl, _, HL6.out, HR.out⟩, HB6.out⟩
end Go.Proofs.YtcbdbnfgnonacaaGreat
