/-
  Shifts of words.
-/
import Derived.Test.YtpnijncoldihfaaTextsC24
import Derived.Test.YtpnijncoldihfaaTextsC09
namespace Go.Proofs.Ytpnijncoldihfaa
open Go.RowKit Go.Shelf

namespace Sh
/-- Left, a limb. -/
theorem stepL {B Q x s c d X S : Nat} (h : x * Q + c = s + B * d) (ih : X * Q + d = S) : (x + B * X) * Q + c = s + B * S := by
  subst ih
  rw [Nat.add_mul, Nat.mul_add, Nat.mul_assoc]
  omega

/-- Right, a limb. -/
theorem stepR {B Q R x h l l' T X : Nat} (hx : x = h * Q + l) (hB : R * Q = B) (ih : T * Q + l' = X) : (h + l' * R + B * T) * Q + l = x + B * X := by
  subst hx ih
  rw [Nat.add_mul, Nat.add_mul, Nat.mul_add, Nat.mul_assoc l' R Q, hB, Nat.mul_assoc B T Q, Nat.mul_comm l' B]
  omega

theorem or_add {a b Q : Nat} {p : Nat} (hQ : Q = 2 ^ p) (hb : b < Q) : a * Q ||| b = a * Q + b := by
  subst hQ
  rw [Nat.mul_comm]
  exact (Nat.two_pow_add_eq_or_of_lt hb a).symm

end Sh

theorem pow_split {p r : Nat} (h : r + p = 64) : 2 ^ r * 2 ^ p = 18446744073709551616 := by
  rw [← Nat.pow_add, h]

/-- x << p | c, c the bits that came up. -/
theorem shl_limb (x c p r : Nat) (hpr : r + p = 64) (hx : x < 18446744073709551616) (hc : c < 2 ^ p) :
    ∃ s : Nat, s < 18446744073709551616 ∧ x * 2 ^ p + c = s + 18446744073709551616 * (x / 2 ^ r) ∧ x / 2 ^ r < 2 ^ p ∧
      bits .or .u64 (IntKind.u64.wrap ((x : Int) * 2 ^ p)) (c : Int) = (s : Int) := by
  have hsp := pow_split hpr
  have hQ : 0 < 2 ^ p := Nat.two_pow_pos p
  have hR : 0 < 2 ^ r := Nat.two_pow_pos r
  have hd := Nat.mod_add_div x (2 ^ r)
  have hm : x * 2 ^ p = x % 2 ^ r * 2 ^ p + 18446744073709551616 * (x / 2 ^ r) := by
    conv => lhs; rw [← hd]
    rw [Nat.add_mul, ← hsp, Nat.mul_right_comm]
  have hl : x % 2 ^ r * 2 ^ p + 2 ^ p ≤ 18446744073709551616 := by
    have : (x % 2 ^ r + 1) * 2 ^ p ≤ 2 ^ r * 2 ^ p := Nat.mul_le_mul_right _ (Nat.mod_lt _ hR)
    rw [hsp, Nat.add_mul, Nat.one_mul] at this
    exact this
  have hcu : x / 2 ^ r < 2 ^ p := by
    rw [Nat.div_lt_iff_lt_mul hR, Nat.mul_comm, hsp]; exact hx
  refine ⟨x % 2 ^ r * 2 ^ p + c, by omega, by omega, hcu, ?_⟩
  have hw : IntKind.u64.wrap ((x : Int) * 2 ^ p) = ((x % 2 ^ r * 2 ^ p : Nat) : Int) := by
    have e : ((x : Int) * 2 ^ p) = ((x * 2 ^ p : Nat) : Int) := by simp
    rw [e, M64.wrapM, hm]
    congr 1
    rw [Nat.add_mul_mod_self_left, Nat.mod_eq_of_lt (by omega)]
  rw [hw]
  have := bits_or_u64_nat (x % 2 ^ r * 2 ^ p) c (by omega) (by omega)
  rw [this, Sh.or_add rfl hc]

/-- x >> p | (y << r): y the limb above. -/
theorem shr_limb (x y p r : Nat) (hpr : r + p = 64) (hx : x < 18446744073709551616) :
    ∃ t : Nat, t < 18446744073709551616 ∧ t = x / 2 ^ p + y % 2 ^ p * 2 ^ r ∧
      bits .or .u64 ((x : Int) / 2 ^ p) (IntKind.u64.wrap ((y : Int) * 2 ^ r)) = (t : Int) := by
  have hsp := pow_split hpr
  have hsp' : 2 ^ p * 2 ^ r = 18446744073709551616 := by rw [Nat.mul_comm]; exact hsp
  have hQ : 0 < 2 ^ p := Nat.two_pow_pos p
  have hR : 0 < 2 ^ r := Nat.two_pow_pos r
  have hlow : x / 2 ^ p < 2 ^ r := by
    rw [Nat.div_lt_iff_lt_mul hQ, Nat.mul_comm, hsp']; exact hx
  have hl : y % 2 ^ p * 2 ^ r + 2 ^ r ≤ 18446744073709551616 := by
    have : (y % 2 ^ p + 1) * 2 ^ r ≤ 2 ^ p * 2 ^ r := Nat.mul_le_mul_right _ (Nat.mod_lt _ hQ)
    rw [hsp', Nat.add_mul, Nat.one_mul] at this
    exact this
  refine ⟨_, by omega, rfl, ?_⟩
  have hm : y * 2 ^ r = y % 2 ^ p * 2 ^ r + 18446744073709551616 * (y / 2 ^ p) := by
    conv => lhs; rw [← Nat.mod_add_div y (2 ^ p)]
    rw [Nat.add_mul, ← hsp', Nat.mul_right_comm]
  have hw : IntKind.u64.wrap ((y : Int) * 2 ^ r) = ((y % 2 ^ p * 2 ^ r : Nat) : Int) := by
    have e : ((y : Int) * 2 ^ r) = ((y * 2 ^ r : Nat) : Int) := by simp
    rw [e, M64.wrapM, hm]
    congr 1
    rw [Nat.add_mul_mod_self_left, Nat.mod_eq_of_lt (by omega)]
  have e2 : ((x : Int) / 2 ^ p) = ((x / 2 ^ p : Nat) : Int) := by simp
  rw [hw, e2]
  have := bits_or_u64_nat (x / 2 ^ p) (y % 2 ^ p * 2 ^ r) (by omega) (by omega)
  rw [this, Nat.or_comm, Sh.or_add rfl hlow, Nat.add_comm]

theorem shr_top (x p : Nat) (hx : x < 18446744073709551616) :
    ∃ t : Nat, t < 18446744073709551616 ∧ t = x / 2 ^ p ∧ bits .or .u64 ((x : Int) / 2 ^ p) 0 = (t : Int) := by
  have h : x / 2 ^ p < 18446744073709551616 := Nat.lt_of_le_of_lt (Nat.div_le_self _ _) hx
  refine ⟨_, h, rfl, ?_⟩
  have e2 : ((x : Int) / 2 ^ p) = ((x / 2 ^ p : Nat) : Int) := by simp
  rw [e2]
  have := bits_or_u64_nat (x / 2 ^ p) 0 h (by omega)
  simpa using this

theorem num_shl {x0 x1 x2 x3 s0 s1 s2 s3 c0 c1 c2 c3 Q : Nat} (e0 : x0 * Q = s0 + 18446744073709551616 * c0) (e1 : x1 * Q + c0 = s1 + 18446744073709551616 * c1) (e2 : x2 * Q + c1 = s2 + 18446744073709551616 * c2) (e3 : x3 * Q + c2 = s3 + 18446744073709551616 * c3) :
    num x0 x1 x2 x3 * Q = num s0 s1 s2 s3 + M256 * c3 := by
  have a3 := Sh.stepL (X := 0) (S := c3) e3 (by omega)
  have a2 := Sh.stepL e2 a3
  have a1 := Sh.stepL e1 a2
  have a0 := Sh.stepL (c := 0) e0 a1
  rw [Nat.mul_zero, Nat.add_zero, Nat.add_zero] at a0
  have e := Gen.flat (B := 18446744073709551616) (a := s0) (b := s1) (c := s2) (d := s3) (k := c3)
  rw [e, ← M256_eq] at a0
  exact a0

theorem num_shr {x0 x1 x2 x3 Q R : Nat} (hQ : 0 < Q) (hB : R * Q = 18446744073709551616) :
    num x0 x1 x2 x3 / Q = num (x0 / Q + x1 % Q * R) (x1 / Q + x2 % Q * R) (x2 / Q + x3 % Q * R) (x3 / Q) := by
  have d : ∀ x : Nat, x = x / Q * Q + x % Q := fun x => by rw [Nat.mul_comm]; exact (Nat.div_add_mod x Q).symm
  have a3 : x3 / Q * Q + x3 % Q = x3 := (d x3).symm
  have a2 := Sh.stepR (d x2) hB a3
  have a1 := Sh.stepR (d x1) hB a2
  have a0 := Sh.stepR (d x0) hB a1
  have h : num x0 x1 x2 x3 = num (x0 / Q + x1 % Q * R) (x1 / Q + x2 % Q * R) (x2 / Q + x3 % Q * R) (x3 / Q) * Q + x0 % Q := a0.symm
  rw [h, Nat.mul_comm, Nat.mul_add_div hQ, Nat.div_eq_of_lt (Nat.mod_lt _ hQ), Nat.add_zero]

theorem shl_split (N : Nat) : 2 ^ N = 2 ^ (N % 64) * 18446744073709551616 ^ (N / 64) := by
  rw [show (18446744073709551616 : Nat) = 2 ^ 64 by decide, ← Nat.pow_mul, ← Nat.pow_add]
  congr 1; omega

set_option maxHeartbeats 2000000 in
set_option maxRecDepth 100000 in
theorem shl_out (N X : Nat) (hn : 256 ≤ N % M256) (w : World) : Calls Try.prog 60 #[wv N, wv X] w fun e w' => e = .returned (wv 0) ∧ Below w.heap.size w w' := by
  have hwi := fun W => within_out N 256 (by omega) hn W
  obtain ⟨m0, m1, m2, m3, hM⟩ := wv_form N
  obtain ⟨x0, x1, x2, x3, hX⟩ := wv_form X
  have hz : wv 0 = .agg #[.int .u64 0, .int .u64 0, .int .u64 0, .int .u64 0] := rfl
  simp only [hM, hX, hz] at hwi ⊢
  have HWI := hideP hwi
  clear hwi hM hX hz hn
  go_enter Try.func60, Try.ntmps60
  go_wp2_with fail
  refine (HWI.out _).mono ?_
  rintro e w1 ⟨rfl, hb⟩
  obtain ⟨_, cx0, cx1, cx2, cx3, _, _, _, _⟩ := kept4 hb ((heap_old _ _ (by simp)).trans (heap_new1 _ _ _))
  obtain ⟨_, q0, q1, q2, q3, f0, f1, f2, f3⟩ := kept4 hb (heap_new2 _ _ _ _)
  have hsz := hb.size
  simp only [World.size_alloc] at hsz
  have l1 : w.heap.size + 1 < w1.heap.size := by omega
  have l2 : w.heap.size + 1 + 1 < w1.heap.size := by omega
  have n1 : ¬ (w.heap.size + 1 = w1.heap.size) := by omega
  have n2 : ¬ (w.heap.size + 1 + 1 = w1.heap.size) := by omega
  have n3 : ¬ (w1.heap.size = w.heap.size + 1) := by omega
  have n4 : ¬ (w1.heap.size = w.heap.size + 1 + 1) := by omega
  have HB : Hid (Below w.heap.size w w1) := ((((Below.refl _ w).alloc (Nat.le_refl _) _).alloc (by simp) _).alloc (by simp <;> omega) _).trans (hb.mono (by simp <;> omega))
  clear hb hsz
  go_wp2
  refine bodyPost_ret (v := .agg #[.int .u64 0, .int .u64 0, .int .u64 0, .int .u64 0]) (by simp [results, Try.results60, go_sem, q0, q1, q2, q3, World.cell?_setCell_same]) rfl ⟨rfl, ?_⟩
  repeat first | exact HB.out | apply Below.drew | (refine Below.alloc ?_ (by simp <;> omega) _) | (refine Below.setCell ?_ (by simp <;> omega) _)

set_option maxHeartbeats 2000000 in
set_option maxRecDepth 100000 in
theorem shr_out (N X : Nat) (hn : 256 ≤ N % M256) (w : World) : Calls Try.prog 62 #[wv N, wv X] w fun e w' => e = .returned (wv 0) ∧ Below w.heap.size w w' := by
  have hwi := fun W => within_out N 256 (by omega) hn W
  obtain ⟨m0, m1, m2, m3, hM⟩ := wv_form N
  obtain ⟨x0, x1, x2, x3, hX⟩ := wv_form X
  have hz : wv 0 = .agg #[.int .u64 0, .int .u64 0, .int .u64 0, .int .u64 0] := rfl
  simp only [hM, hX, hz] at hwi ⊢
  have HWI := hideP hwi
  clear hwi hM hX hz hn
  go_enter Try.func62, Try.ntmps62
  go_wp2_with fail
  refine (HWI.out _).mono ?_
  rintro e w1 ⟨rfl, hb⟩
  obtain ⟨_, cx0, cx1, cx2, cx3, _, _, _, _⟩ := kept4 hb ((heap_old _ _ (by simp)).trans (heap_new1 _ _ _))
  obtain ⟨_, q0, q1, q2, q3, f0, f1, f2, f3⟩ := kept4 hb (heap_new2 _ _ _ _)
  have hsz := hb.size
  simp only [World.size_alloc] at hsz
  have l1 : w.heap.size + 1 < w1.heap.size := by omega
  have l2 : w.heap.size + 1 + 1 < w1.heap.size := by omega
  have n1 : ¬ (w.heap.size + 1 = w1.heap.size) := by omega
  have n2 : ¬ (w.heap.size + 1 + 1 = w1.heap.size) := by omega
  have n3 : ¬ (w1.heap.size = w.heap.size + 1) := by omega
  have n4 : ¬ (w1.heap.size = w.heap.size + 1 + 1) := by omega
  have HB : Hid (Below w.heap.size w w1) := ((((Below.refl _ w).alloc (Nat.le_refl _) _).alloc (by simp) _).alloc (by simp <;> omega) _).trans (hb.mono (by simp <;> omega))
  clear hb hsz
  go_wp2
  refine bodyPost_ret (v := .agg #[.int .u64 0, .int .u64 0, .int .u64 0, .int .u64 0]) (by simp [results, Try.results62, go_sem, q0, q1, q2, q3, World.cell?_setCell_same]) rfl ⟨rfl, ?_⟩
  repeat first | exact HB.out | apply Below.drew | (refine Below.alloc ?_ (by simp <;> omega) _) | (refine Below.setCell ?_ (by simp <;> omega) _)

set_option maxHeartbeats 2000000 in
set_option maxRecDepth 100000 in
theorem shl_in (N X : Nat) (hn : N % M256 < 256) (w : World) : Calls Try.prog 60 #[wv N, wv X] w fun e w' => e = .returned (wv (X * 2 ^ (N % M256))) ∧ Below w.heap.size w w' := by
  have hwi := fun W => within_in N 256 (by omega) hn W
  obtain ⟨m0, m1, m2, m3, hM⟩ := wv_form N
  obtain ⟨x0, x1, x2, x3, h0, h1, h2, h3, eX, hX⟩ := wv_limbs X
  generalize N % M256 = n at hn hwi ⊢
  obtain ⟨p, hp⟩ : ∃ p, p = n % 64 := ⟨_, rfl⟩
  obtain ⟨o, ho⟩ : ∃ o, o = n / 64 := ⟨_, rfl⟩
  obtain ⟨r, hr⟩ : ∃ r, r + p = 64 := ⟨64 - p, by omega⟩
  have hsp := shl_split n
  rw [← hp, ← ho] at hsp
  have hQ : 0 < 2 ^ p := Nat.two_pow_pos p
  obtain ⟨s0, i0, e0, u0, b0⟩ := shl_limb x0 0 p r hr h0 hQ
  obtain ⟨s1, i1, e1, u1, b1⟩ := shl_limb x1 (x0 / 2 ^ r) p r hr h1 u0
  obtain ⟨s2, i2, e2, u2, b2⟩ := shl_limb x2 (x1 / 2 ^ r) p r hr h2 u1
  obtain ⟨s3, i3, e3, u3, b3⟩ := shl_limb x3 (x2 / 2 ^ r) p r hr h3 u2
  have hs := num_shl e0 e1 e2 e3
  have hz : ∀ Z, X * (2 ^ p * Z) % M256 = num s0 s1 s2 s3 * Z % M256 := by
    intro Z
    rw [← Nat.mod_mul_mod, eX, ← Nat.mul_assoc, hs, Nat.add_mul, Nat.mul_assoc M256, Nat.add_mul_mod_self_left]
  simp only [Int.natCast_ediv, Int.natCast_pow, Int.cast_ofNat_Int] at b0 b1 b2 b3
  have hpi : (n : Int) % 64 = (p : Int) := by omega
  have hri : (64 : Int) - (p : Int) = (r : Int) := by omega
  have hp64 : (p : Int) ≤ 64 := by omega
  have hr64 : (r : Int) ≤ 64 := by omega
  have hw3 : IntKind.i64.wrap 3 = 3 := rfl
  have hw4 : IntKind.i64.wrap 4 = 4 := rfl
  have ho4 : o = 0 ∨ o = 1 ∨ o = 2 ∨ o = 3 := by omega
  simp only [hM, hX] at hwi ⊢
  have HWI := hideP hwi
  clear hwi hM hX
  rcases ho4 with ho4 | ho4 | ho4 | ho4
  · rw [ho4] at ho hsp
    have hoi : (n : Int) / 64 = 0 := by omega
    have HR : Hid (Value.agg #[.int .u64 (s0 : Nat), .int .u64 (s1 : Nat), .int .u64 (s2 : Nat), .int .u64 (s3 : Nat)] = wv (X * 2 ^ n)) := by
      show _ = _
      refine wv_num (by omega) (by omega) (by omega) (by omega) ?_
      rw [hsp, hz]
      unfold num M256
      omega
    clear hsp hs h0 h1 h2 h3 hQ i0 i1 i2 i3 eX ho4 hn ho hp e0 e1 e2 e3 hz u0 u1 u2 u3
    clear hr
    go_enter Try.func60, Try.ntmps60
    go_wp2_with fail
    refine (HWI.out _).mono ?_
    rintro e w1 ⟨rfl, hb⟩
    obtain ⟨_, cx0, cx1, cx2, cx3, _, _, _, _⟩ := kept4 hb ((heap_old _ _ (by simp)).trans (heap_new1 _ _ _))
    obtain ⟨_, q0, q1, q2, q3, f0, f1, f2, f3⟩ := kept4 hb (heap_new2 _ _ _ _)
    have hsz := hb.size
    simp only [World.size_alloc] at hsz
    have l1 : w.heap.size + 1 < w1.heap.size := by omega
    have l2 : w.heap.size + 1 + 1 < w1.heap.size := by omega
    have n1 : ¬ (w.heap.size + 1 = w1.heap.size) := by omega
    have n2 : ¬ (w.heap.size + 1 + 1 = w1.heap.size) := by omega
    have n3 : ¬ (w1.heap.size = w.heap.size + 1) := by omega
    have n4 : ¬ (w1.heap.size = w.heap.size + 1 + 1) := by omega
    have HB : Hid (Below w.heap.size w w1) := ((((Below.refl _ w).alloc (Nat.le_refl _) _).alloc (by simp) _).alloc (by simp <;> omega) _).trans (hb.mono (by simp <;> omega))
    clear hb hsz
    go_wp2_with fail
    refine wp_loop_rounds 5 ?_
    rw [rounds_succ]
    go_wp2_with fail
    rw [rounds_succ]
    go_wp2_with fail
    rw [rounds_succ]
    go_wp2_with fail
    rw [rounds_succ]
    go_wp2_with fail
    rw [rounds_succ]
    go_wp2
    refine bodyPost_ret (v := .agg #[.int .u64 (s0 : Nat), .int .u64 (s1 : Nat), .int .u64 (s2 : Nat), .int .u64 (s3 : Nat)]) (by simp [results, Try.results60, go_sem, l2, q0, q1, q2, q3, World.cell?_setCell_same]) rfl ⟨by first | rw [HR.out] | exact congrArg _ HR.out, ?_⟩
    repeat first | exact HB.out | apply Below.drew | (refine Below.alloc ?_ (by simp <;> omega) _) | (refine Below.setCell ?_ (by simp <;> omega) _)
  · rw [ho4] at ho hsp
    have hoi : (n : Int) / 64 = 1 := by omega
    have HR : Hid (Value.agg #[.int .u64 ((0 : Nat) : Int), .int .u64 (s0 : Nat), .int .u64 (s1 : Nat), .int .u64 (s2 : Nat)] = wv (X * 2 ^ n)) := by
      show _ = _
      refine wv_num (by omega) (by omega) (by omega) (by omega) ?_
      rw [hsp, hz]
      unfold num M256
      omega
    clear hsp hs h0 h1 h2 h3 hQ i0 i1 i2 i3 eX ho4 hn ho hp e0 e1 e2 e3 hz u0 u1 u2 u3
    clear hr
    go_enter Try.func60, Try.ntmps60
    go_wp2_with fail
    refine (HWI.out _).mono ?_
    rintro e w1 ⟨rfl, hb⟩
    obtain ⟨_, cx0, cx1, cx2, cx3, _, _, _, _⟩ := kept4 hb ((heap_old _ _ (by simp)).trans (heap_new1 _ _ _))
    obtain ⟨_, q0, q1, q2, q3, f0, f1, f2, f3⟩ := kept4 hb (heap_new2 _ _ _ _)
    have hsz := hb.size
    simp only [World.size_alloc] at hsz
    have l1 : w.heap.size + 1 < w1.heap.size := by omega
    have l2 : w.heap.size + 1 + 1 < w1.heap.size := by omega
    have n1 : ¬ (w.heap.size + 1 = w1.heap.size) := by omega
    have n2 : ¬ (w.heap.size + 1 + 1 = w1.heap.size) := by omega
    have n3 : ¬ (w1.heap.size = w.heap.size + 1) := by omega
    have n4 : ¬ (w1.heap.size = w.heap.size + 1 + 1) := by omega
    have HB : Hid (Below w.heap.size w w1) := ((((Below.refl _ w).alloc (Nat.le_refl _) _).alloc (by simp) _).alloc (by simp <;> omega) _).trans (hb.mono (by simp <;> omega))
    clear hb hsz
    go_wp2_with fail
    refine wp_loop_rounds 5 ?_
    rw [rounds_succ]
    go_wp2_with fail
    rw [rounds_succ]
    go_wp2_with fail
    rw [rounds_succ]
    go_wp2_with fail
    rw [rounds_succ]
    go_wp2
    refine bodyPost_ret (v := .agg #[.int .u64 0, .int .u64 (s0 : Nat), .int .u64 (s1 : Nat), .int .u64 (s2 : Nat)]) (by simp [results, Try.results60, go_sem, l2, q0, q1, q2, q3, World.cell?_setCell_same]) rfl ⟨by first | rw [HR.out] | exact congrArg _ HR.out, ?_⟩
    repeat first | exact HB.out | apply Below.drew | (refine Below.alloc ?_ (by simp <;> omega) _) | (refine Below.setCell ?_ (by simp <;> omega) _)
  · rw [ho4] at ho hsp
    have hoi : (n : Int) / 64 = 2 := by omega
    have HR : Hid (Value.agg #[.int .u64 ((0 : Nat) : Int), .int .u64 ((0 : Nat) : Int), .int .u64 (s0 : Nat), .int .u64 (s1 : Nat)] = wv (X * 2 ^ n)) := by
      show _ = _
      refine wv_num (by omega) (by omega) (by omega) (by omega) ?_
      rw [hsp, hz]
      unfold num M256
      omega
    clear hsp hs h0 h1 h2 h3 hQ i0 i1 i2 i3 eX ho4 hn ho hp e0 e1 e2 e3 hz u0 u1 u2 u3
    clear hr
    go_enter Try.func60, Try.ntmps60
    go_wp2_with fail
    refine (HWI.out _).mono ?_
    rintro e w1 ⟨rfl, hb⟩
    obtain ⟨_, cx0, cx1, cx2, cx3, _, _, _, _⟩ := kept4 hb ((heap_old _ _ (by simp)).trans (heap_new1 _ _ _))
    obtain ⟨_, q0, q1, q2, q3, f0, f1, f2, f3⟩ := kept4 hb (heap_new2 _ _ _ _)
    have hsz := hb.size
    simp only [World.size_alloc] at hsz
    have l1 : w.heap.size + 1 < w1.heap.size := by omega
    have l2 : w.heap.size + 1 + 1 < w1.heap.size := by omega
    have n1 : ¬ (w.heap.size + 1 = w1.heap.size) := by omega
    have n2 : ¬ (w.heap.size + 1 + 1 = w1.heap.size) := by omega
    have n3 : ¬ (w1.heap.size = w.heap.size + 1) := by omega
    have n4 : ¬ (w1.heap.size = w.heap.size + 1 + 1) := by omega
    have HB : Hid (Below w.heap.size w w1) := ((((Below.refl _ w).alloc (Nat.le_refl _) _).alloc (by simp) _).alloc (by simp <;> omega) _).trans (hb.mono (by simp <;> omega))
    clear hb hsz
    go_wp2_with fail
    refine wp_loop_rounds 5 ?_
    rw [rounds_succ]
    go_wp2_with fail
    rw [rounds_succ]
    go_wp2_with fail
    rw [rounds_succ]
    go_wp2
    refine bodyPost_ret (v := .agg #[.int .u64 0, .int .u64 0, .int .u64 (s0 : Nat), .int .u64 (s1 : Nat)]) (by simp [results, Try.results60, go_sem, l2, q0, q1, q2, q3, World.cell?_setCell_same]) rfl ⟨by first | rw [HR.out] | exact congrArg _ HR.out, ?_⟩
    repeat first | exact HB.out | apply Below.drew | (refine Below.alloc ?_ (by simp <;> omega) _) | (refine Below.setCell ?_ (by simp <;> omega) _)
  · rw [ho4] at ho hsp
    have hoi : (n : Int) / 64 = 3 := by omega
    have HR : Hid (Value.agg #[.int .u64 ((0 : Nat) : Int), .int .u64 ((0 : Nat) : Int), .int .u64 ((0 : Nat) : Int), .int .u64 (s0 : Nat)] = wv (X * 2 ^ n)) := by
      show _ = _
      refine wv_num (by omega) (by omega) (by omega) (by omega) ?_
      rw [hsp, hz]
      unfold num M256
      omega
    clear hsp hs h0 h1 h2 h3 hQ i0 i1 i2 i3 eX ho4 hn ho hp e0 e1 e2 e3 hz u0 u1 u2 u3
    clear hr
    go_enter Try.func60, Try.ntmps60
    go_wp2_with fail
    refine (HWI.out _).mono ?_
    rintro e w1 ⟨rfl, hb⟩
    obtain ⟨_, cx0, cx1, cx2, cx3, _, _, _, _⟩ := kept4 hb ((heap_old _ _ (by simp)).trans (heap_new1 _ _ _))
    obtain ⟨_, q0, q1, q2, q3, f0, f1, f2, f3⟩ := kept4 hb (heap_new2 _ _ _ _)
    have hsz := hb.size
    simp only [World.size_alloc] at hsz
    have l1 : w.heap.size + 1 < w1.heap.size := by omega
    have l2 : w.heap.size + 1 + 1 < w1.heap.size := by omega
    have n1 : ¬ (w.heap.size + 1 = w1.heap.size) := by omega
    have n2 : ¬ (w.heap.size + 1 + 1 = w1.heap.size) := by omega
    have n3 : ¬ (w1.heap.size = w.heap.size + 1) := by omega
    have n4 : ¬ (w1.heap.size = w.heap.size + 1 + 1) := by omega
    have HB : Hid (Below w.heap.size w w1) := ((((Below.refl _ w).alloc (Nat.le_refl _) _).alloc (by simp) _).alloc (by simp <;> omega) _).trans (hb.mono (by simp <;> omega))
    clear hb hsz
    go_wp2_with fail
    refine wp_loop_rounds 5 ?_
    rw [rounds_succ]
    go_wp2_with fail
    rw [rounds_succ]
    go_wp2
    refine bodyPost_ret (v := .agg #[.int .u64 0, .int .u64 0, .int .u64 0, .int .u64 (s0 : Nat)]) (by simp [results, Try.results60, go_sem, l2, q0, q1, q2, q3, World.cell?_setCell_same]) rfl ⟨by first | rw [HR.out] | exact congrArg _ HR.out, ?_⟩
    repeat first | exact HB.out | apply Below.drew | (refine Below.alloc ?_ (by simp <;> omega) _) | (refine Below.setCell ?_ (by simp <;> omega) _)

set_option maxHeartbeats 2000000 in
set_option maxRecDepth 100000 in
theorem shr_in (N X : Nat) (hn : N % M256 < 256) (w : World) : Calls Try.prog 62 #[wv N, wv X] w fun e w' => e = .returned (wv (X % M256 / 2 ^ (N % M256))) ∧ Below w.heap.size w w' := by
  have hwi := fun W => within_in N 256 (by omega) hn W
  obtain ⟨m0, m1, m2, m3, hM⟩ := wv_form N
  obtain ⟨x0, x1, x2, x3, h0, h1, h2, h3, eX, hX⟩ := wv_limbs X
  generalize N % M256 = n at hn hwi ⊢
  obtain ⟨p, hp⟩ : ∃ p, p = n % 64 := ⟨_, rfl⟩
  obtain ⟨o, ho⟩ : ∃ o, o = n / 64 := ⟨_, rfl⟩
  obtain ⟨r, hr⟩ : ∃ r, r + p = 64 := ⟨64 - p, by omega⟩
  have hsp := shl_split n
  rw [← hp, ← ho] at hsp
  have hQ : 0 < 2 ^ p := Nat.two_pow_pos p
  obtain ⟨s0, i0, e0, b0⟩ := shr_limb x0 x1 p r hr h0
  obtain ⟨s1, i1, e1, b1⟩ := shr_limb x1 x2 p r hr h1
  obtain ⟨s2, i2, e2, b2⟩ := shr_limb x2 x3 p r hr h2
  obtain ⟨s3, i3, e3, b3⟩ := shr_top x3 p h3
  have hs := num_shr (x0 := x0) (x1 := x1) (x2 := x2) (x3 := x3) hQ (pow_split hr)
  rw [← e0, ← e1, ← e2, ← e3, ← eX] at hs
  have hpi : (n : Int) % 64 = (p : Int) := by omega
  have hri : (64 : Int) - (p : Int) = (r : Int) := by omega
  have hp64 : (p : Int) ≤ 64 := by omega
  have hr64 : (r : Int) ≤ 64 := by omega
  have hw3 : IntKind.i64.wrap 3 = 3 := rfl
  have hw4 : IntKind.i64.wrap 4 = 4 := rfl
  have ho4 : o = 0 ∨ o = 1 ∨ o = 2 ∨ o = 3 := by omega
  simp only [hM, hX] at hwi ⊢
  have HWI := hideP hwi
  clear hwi hM hX
  rcases ho4 with ho4 | ho4 | ho4 | ho4
  · rw [ho4] at ho hsp
    have hoi : (n : Int) / 64 = 0 := by omega
    have HR : Hid (Value.agg #[.int .u64 (s0 : Nat), .int .u64 (s1 : Nat), .int .u64 (s2 : Nat), .int .u64 (s3 : Nat)] = wv (X % M256 / 2 ^ n)) := by
      show _ = _
      refine wv_num (by omega) (by omega) (by omega) (by omega) ?_
      rw [Nat.mod_eq_of_lt (Nat.lt_of_le_of_lt (Nat.div_le_self _ _) (Nat.mod_lt _ M256_pos)), hsp, ← Nat.div_div_eq_div_mul, hs]
      unfold num
      omega
    clear hsp hs h0 h1 h2 h3 hQ i0 i1 i2 i3 eX ho4 hn ho hp e0 e1 e2 e3 
    clear hr
    go_enter Try.func62, Try.ntmps62
    go_wp2_with fail
    refine (HWI.out _).mono ?_
    rintro e w1 ⟨rfl, hb⟩
    obtain ⟨_, cx0, cx1, cx2, cx3, _, _, _, _⟩ := kept4 hb ((heap_old _ _ (by simp)).trans (heap_new1 _ _ _))
    obtain ⟨_, q0, q1, q2, q3, f0, f1, f2, f3⟩ := kept4 hb (heap_new2 _ _ _ _)
    have hsz := hb.size
    simp only [World.size_alloc] at hsz
    have l1 : w.heap.size + 1 < w1.heap.size := by omega
    have l2 : w.heap.size + 1 + 1 < w1.heap.size := by omega
    have n1 : ¬ (w.heap.size + 1 = w1.heap.size) := by omega
    have n2 : ¬ (w.heap.size + 1 + 1 = w1.heap.size) := by omega
    have n3 : ¬ (w1.heap.size = w.heap.size + 1) := by omega
    have n4 : ¬ (w1.heap.size = w.heap.size + 1 + 1) := by omega
    have HB : Hid (Below w.heap.size w w1) := ((((Below.refl _ w).alloc (Nat.le_refl _) _).alloc (by simp) _).alloc (by simp <;> omega) _).trans (hb.mono (by simp <;> omega))
    clear hb hsz
    go_wp2_with fail
    refine wp_loop_rounds 5 ?_
    rw [rounds_succ]
    go_wp2_with fail
    rw [rounds_succ]
    go_wp2_with fail
    rw [rounds_succ]
    go_wp2_with fail
    rw [rounds_succ]
    go_wp2_with fail
    rw [rounds_succ]
    go_wp2
    refine bodyPost_ret (v := .agg #[.int .u64 (s0 : Nat), .int .u64 (s1 : Nat), .int .u64 (s2 : Nat), .int .u64 (s3 : Nat)]) (by simp [results, Try.results62, go_sem, l2, q0, q1, q2, q3, World.cell?_setCell_same]) rfl ⟨by first | rw [HR.out] | exact congrArg _ HR.out, ?_⟩
    repeat first | exact HB.out | apply Below.drew | (refine Below.alloc ?_ (by simp <;> omega) _) | (refine Below.setCell ?_ (by simp <;> omega) _)
  · rw [ho4] at ho hsp
    have hoi : (n : Int) / 64 = 1 := by omega
    have HR : Hid (Value.agg #[.int .u64 (s1 : Nat), .int .u64 (s2 : Nat), .int .u64 (s3 : Nat), .int .u64 ((0 : Nat) : Int)] = wv (X % M256 / 2 ^ n)) := by
      show _ = _
      refine wv_num (by omega) (by omega) (by omega) (by omega) ?_
      rw [Nat.mod_eq_of_lt (Nat.lt_of_le_of_lt (Nat.div_le_self _ _) (Nat.mod_lt _ M256_pos)), hsp, ← Nat.div_div_eq_div_mul, hs]
      unfold num
      omega
    clear hsp hs h0 h1 h2 h3 hQ i0 i1 i2 i3 eX ho4 hn ho hp e0 e1 e2 e3 
    clear hr
    go_enter Try.func62, Try.ntmps62
    go_wp2_with fail
    refine (HWI.out _).mono ?_
    rintro e w1 ⟨rfl, hb⟩
    obtain ⟨_, cx0, cx1, cx2, cx3, _, _, _, _⟩ := kept4 hb ((heap_old _ _ (by simp)).trans (heap_new1 _ _ _))
    obtain ⟨_, q0, q1, q2, q3, f0, f1, f2, f3⟩ := kept4 hb (heap_new2 _ _ _ _)
    have hsz := hb.size
    simp only [World.size_alloc] at hsz
    have l1 : w.heap.size + 1 < w1.heap.size := by omega
    have l2 : w.heap.size + 1 + 1 < w1.heap.size := by omega
    have n1 : ¬ (w.heap.size + 1 = w1.heap.size) := by omega
    have n2 : ¬ (w.heap.size + 1 + 1 = w1.heap.size) := by omega
    have n3 : ¬ (w1.heap.size = w.heap.size + 1) := by omega
    have n4 : ¬ (w1.heap.size = w.heap.size + 1 + 1) := by omega
    have HB : Hid (Below w.heap.size w w1) := ((((Below.refl _ w).alloc (Nat.le_refl _) _).alloc (by simp) _).alloc (by simp <;> omega) _).trans (hb.mono (by simp <;> omega))
    clear hb hsz
    go_wp2_with fail
    refine wp_loop_rounds 5 ?_
    rw [rounds_succ]
    go_wp2_with fail
    rw [rounds_succ]
    go_wp2_with fail
    rw [rounds_succ]
    go_wp2_with fail
    rw [rounds_succ]
    go_wp2
    refine bodyPost_ret (v := .agg #[.int .u64 (s1 : Nat), .int .u64 (s2 : Nat), .int .u64 (s3 : Nat), .int .u64 0]) (by simp [results, Try.results62, go_sem, l2, q0, q1, q2, q3, World.cell?_setCell_same]) rfl ⟨by first | rw [HR.out] | exact congrArg _ HR.out, ?_⟩
    repeat first | exact HB.out | apply Below.drew | (refine Below.alloc ?_ (by simp <;> omega) _) | (refine Below.setCell ?_ (by simp <;> omega) _)
  · rw [ho4] at ho hsp
    have hoi : (n : Int) / 64 = 2 := by omega
    have HR : Hid (Value.agg #[.int .u64 (s2 : Nat), .int .u64 (s3 : Nat), .int .u64 ((0 : Nat) : Int), .int .u64 ((0 : Nat) : Int)] = wv (X % M256 / 2 ^ n)) := by
      show _ = _
      refine wv_num (by omega) (by omega) (by omega) (by omega) ?_
      rw [Nat.mod_eq_of_lt (Nat.lt_of_le_of_lt (Nat.div_le_self _ _) (Nat.mod_lt _ M256_pos)), hsp, ← Nat.div_div_eq_div_mul, hs]
      unfold num
      omega
    clear hsp hs h0 h1 h2 h3 hQ i0 i1 i2 i3 eX ho4 hn ho hp e0 e1 e2 e3 
    clear hr
    go_enter Try.func62, Try.ntmps62
    go_wp2_with fail
    refine (HWI.out _).mono ?_
    rintro e w1 ⟨rfl, hb⟩
    obtain ⟨_, cx0, cx1, cx2, cx3, _, _, _, _⟩ := kept4 hb ((heap_old _ _ (by simp)).trans (heap_new1 _ _ _))
    obtain ⟨_, q0, q1, q2, q3, f0, f1, f2, f3⟩ := kept4 hb (heap_new2 _ _ _ _)
    have hsz := hb.size
    simp only [World.size_alloc] at hsz
    have l1 : w.heap.size + 1 < w1.heap.size := by omega
    have l2 : w.heap.size + 1 + 1 < w1.heap.size := by omega
    have n1 : ¬ (w.heap.size + 1 = w1.heap.size) := by omega
    have n2 : ¬ (w.heap.size + 1 + 1 = w1.heap.size) := by omega
    have n3 : ¬ (w1.heap.size = w.heap.size + 1) := by omega
    have n4 : ¬ (w1.heap.size = w.heap.size + 1 + 1) := by omega
    have HB : Hid (Below w.heap.size w w1) := ((((Below.refl _ w).alloc (Nat.le_refl _) _).alloc (by simp) _).alloc (by simp <;> omega) _).trans (hb.mono (by simp <;> omega))
    clear hb hsz
    go_wp2_with fail
    refine wp_loop_rounds 5 ?_
    rw [rounds_succ]
    go_wp2_with fail
    rw [rounds_succ]
    go_wp2_with fail
    rw [rounds_succ]
    go_wp2
    refine bodyPost_ret (v := .agg #[.int .u64 (s2 : Nat), .int .u64 (s3 : Nat), .int .u64 0, .int .u64 0]) (by simp [results, Try.results62, go_sem, l2, q0, q1, q2, q3, World.cell?_setCell_same]) rfl ⟨by first | rw [HR.out] | exact congrArg _ HR.out, ?_⟩
    repeat first | exact HB.out | apply Below.drew | (refine Below.alloc ?_ (by simp <;> omega) _) | (refine Below.setCell ?_ (by simp <;> omega) _)
  · rw [ho4] at ho hsp
    have hoi : (n : Int) / 64 = 3 := by omega
    have HR : Hid (Value.agg #[.int .u64 (s3 : Nat), .int .u64 ((0 : Nat) : Int), .int .u64 ((0 : Nat) : Int), .int .u64 ((0 : Nat) : Int)] = wv (X % M256 / 2 ^ n)) := by
      show _ = _
      refine wv_num (by omega) (by omega) (by omega) (by omega) ?_
      rw [Nat.mod_eq_of_lt (Nat.lt_of_le_of_lt (Nat.div_le_self _ _) (Nat.mod_lt _ M256_pos)), hsp, ← Nat.div_div_eq_div_mul, hs]
      unfold num
      omega
    clear hsp hs h0 h1 h2 h3 hQ i0 i1 i2 i3 eX ho4 hn ho hp e0 e1 e2 e3 
    clear hr
    go_enter Try.func62, Try.ntmps62
    go_wp2_with fail
    refine (HWI.out _).mono ?_
    rintro e w1 ⟨rfl, hb⟩
    obtain ⟨_, cx0, cx1, cx2, cx3, _, _, _, _⟩ := kept4 hb ((heap_old _ _ (by simp)).trans (heap_new1 _ _ _))
    obtain ⟨_, q0, q1, q2, q3, f0, f1, f2, f3⟩ := kept4 hb (heap_new2 _ _ _ _)
    have hsz := hb.size
    simp only [World.size_alloc] at hsz
    have l1 : w.heap.size + 1 < w1.heap.size := by omega
    have l2 : w.heap.size + 1 + 1 < w1.heap.size := by omega
    have n1 : ¬ (w.heap.size + 1 = w1.heap.size) := by omega
    have n2 : ¬ (w.heap.size + 1 + 1 = w1.heap.size) := by omega
    have n3 : ¬ (w1.heap.size = w.heap.size + 1) := by omega
    have n4 : ¬ (w1.heap.size = w.heap.size + 1 + 1) := by omega
    have HB : Hid (Below w.heap.size w w1) := ((((Below.refl _ w).alloc (Nat.le_refl _) _).alloc (by simp) _).alloc (by simp <;> omega) _).trans (hb.mono (by simp <;> omega))
    clear hb hsz
    go_wp2_with fail
    refine wp_loop_rounds 5 ?_
    rw [rounds_succ]
    go_wp2_with fail
    rw [rounds_succ]
    go_wp2
    refine bodyPost_ret (v := .agg #[.int .u64 (s3 : Nat), .int .u64 0, .int .u64 0, .int .u64 0]) (by simp [results, Try.results62, go_sem, l2, q0, q1, q2, q3, World.cell?_setCell_same]) rfl ⟨by first | rw [HR.out] | exact congrArg _ HR.out, ?_⟩
    repeat first | exact HB.out | apply Below.drew | (refine Below.alloc ?_ (by simp <;> omega) _) | (refine Below.setCell ?_ (by simp <;> omega) _)

end Go.Proofs.Ytpnijncoldihfaa
