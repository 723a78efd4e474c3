/-
  A product and two summands, as two limbs.
-/
import Derived.Test.YtpnijncoldihfaaTextsC01
import Derived.Lib.Mul64
import Derived.Laws.Bits64b
namespace Go.Proofs.Ytpnijncoldihfaa
open Go.RowKit Go.Shelf

set_option maxHeartbeats 1000000 in
set_option maxRecDepth 100000 in
theorem carry_any (w : World) (X Y : Nat) :
    Calls Try.prog 16 #[wv X, wv Y] w fun e w' => ∃ c : Nat, e = .returned (.tuple #[wv (X + Y), .bool ((c : Int) == 1)]) ∧ c ≤ 1 ∧ X % M256 + Y % M256 = (X + Y) % M256 + M256 * c ∧ Below w.heap.size w w' := by
  obtain ⟨x0, x1, x2, x3, hx0, hx1, hx2, hx3, eX, hX⟩ := wv_limbs X
  obtain ⟨y0, y1, y2, y3, hy0, hy1, hy2, hy3, eY, hY⟩ := wv_limbs Y
  rw [hX, hY]
  obtain ⟨s0, c0, i0, j0, e0, k0⟩ := add64_ex0 x0 y0 hx0 hy0
  obtain ⟨s1, c1, i1, j1, e1, k1⟩ := add64_ex x1 y1 c0 hx1 hy1 j0
  obtain ⟨s2, c2, i2, j2, e2, k2⟩ := add64_ex x2 y2 c1 hx2 hy2 j1
  obtain ⟨s3, c3, i3, j3, e3, k3⟩ := add64_ex x3 y3 c2 hx3 hy3 j2
  have hs := num_add e0 e1 e2 e3
  rw [← eX, ← eY] at hs
  have hm := mod_add_eq hs (num_lt i0 i1 i2 i3)
  have HR : Hid (Value.agg #[.int .u64 s0, .int .u64 s1, .int .u64 s2, .int .u64 s3] = wv (X + Y) ∧ c3 ≤ 1 ∧ X % M256 + Y % M256 = (X + Y) % M256 + M256 * c3) :=
    ⟨wv_num i0 i1 i2 i3 hm, j3, by rw [hs, hm]⟩
  clear hs hm
  clear i0 i1 i2 i3 j0 j1 j2 j3 e0 e1 e2 e3 hx0 hx1 hx2 hx3 hy0 hy1 hy2 hy3 hX hY eX eY
  go_enter Try.func16, Try.ntmps16
  go_wp2_with (fail)
  refine wp_loop_rounds 5 ?_
  rw [rounds_succ]
  go_wp2_with (fail)
  go_region
  go_wp2_with (fail)
  rw [rounds_succ]
  go_wp2_with (fail)
  go_region
  go_wp2_with (fail)
  rw [rounds_succ]
  go_wp2_with (fail)
  go_region
  go_wp2_with (fail)
  rw [rounds_succ]
  go_wp2_with (fail)
  go_region
  go_wp2_with (fail)
  rw [rounds_succ]
  go_wp2
  refine bodyPost_ret (v := .tuple #[.agg #[.int .u64 s0, .int .u64 s1, .int .u64 s2, .int .u64 s3], .bool ((c3 : Int) == 1)]) (by simp [results, Try.results16, go_sem]) rfl ?_
  obtain ⟨r1, r2, r3⟩ := HR.out
  exact ⟨c3, by rw [r1], r2, r3, by repeat first | exact Below.refl _ _ | apply Below.drew | (refine Below.alloc ?_ (by simp <;> omega) _)⟩

set_option maxHeartbeats 1000000 in
set_option maxRecDepth 100000 in
theorem borrow_any (w : World) (X Y : Nat) :
    Calls Try.prog 17 #[wv X, wv Y] w fun e w' => ∃ c : Nat, e = .returned (.tuple #[wv (X % M256 + M256 * c - Y % M256), .bool ((c : Int) == 1)]) ∧ c ≤ 1 ∧ Y % M256 ≤ X % M256 + M256 * c ∧ X % M256 + M256 * c < Y % M256 + M256 ∧ Below w.heap.size w w' := by
  obtain ⟨x0, x1, x2, x3, hx0, hx1, hx2, hx3, eX, hX⟩ := wv_limbs X
  obtain ⟨y0, y1, y2, y3, hy0, hy1, hy2, hy3, eY, hY⟩ := wv_limbs Y
  rw [hX, hY]
  obtain ⟨s0, c0, i0, j0, e0, k0⟩ := sub64_ex0 x0 y0 hx0 hy0
  obtain ⟨s1, c1, i1, j1, e1, k1⟩ := sub64_ex x1 y1 c0 hx1 hy1 j0
  obtain ⟨s2, c2, i2, j2, e2, k2⟩ := sub64_ex x2 y2 c1 hx2 hy2 j1
  obtain ⟨s3, c3, i3, j3, e3, k3⟩ := sub64_ex x3 y3 c2 hx3 hy3 j2
  have hs := num_sub e0 e1 e2 e3
  rw [← eX, ← eY] at hs
  have hl := num_lt i0 i1 i2 i3
  have hm : X % M256 + M256 * c3 - Y % M256 = num s0 s1 s2 s3 := by rw [hs]; exact Nat.add_sub_cancel ..
  have HR : Hid (Value.agg #[.int .u64 s0, .int .u64 s1, .int .u64 s2, .int .u64 s3] = wv (X % M256 + M256 * c3 - Y % M256) ∧ c3 ≤ 1 ∧ Y % M256 ≤ X % M256 + M256 * c3 ∧ X % M256 + M256 * c3 < Y % M256 + M256) :=
    ⟨wv_num i0 i1 i2 i3 (by rw [hm, Nat.mod_eq_of_lt hl]), j3, by rw [hs]; exact Nat.le_add_left _ _, by rw [hs, Nat.add_comm]; exact Nat.add_lt_add_left hl _⟩
  clear hs hl hm
  clear i0 i1 i2 i3 j0 j1 j2 j3 e0 e1 e2 e3 hx0 hx1 hx2 hx3 hy0 hy1 hy2 hy3 hX hY eX eY
  go_enter Try.func17, Try.ntmps17
  go_wp2_with (fail)
  refine wp_loop_rounds 5 ?_
  rw [rounds_succ]
  go_wp2_with (fail)
  go_region
  go_wp2_with (fail)
  rw [rounds_succ]
  go_wp2_with (fail)
  go_region
  go_wp2_with (fail)
  rw [rounds_succ]
  go_wp2_with (fail)
  go_region
  go_wp2_with (fail)
  rw [rounds_succ]
  go_wp2_with (fail)
  go_region
  go_wp2_with (fail)
  rw [rounds_succ]
  go_wp2
  refine bodyPost_ret (v := .tuple #[.agg #[.int .u64 s0, .int .u64 s1, .int .u64 s2, .int .u64 s3], .bool ((c3 : Int) == 1)]) (by simp [results, Try.results17, go_sem]) rfl ?_
  obtain ⟨r1, r2, r3⟩ := HR.out
  exact ⟨c3, by rw [r1], r2, r3.1, r3.2, by repeat first | exact Below.refl _ _ | apply Below.drew | (refine Below.alloc ?_ (by simp <;> omega) _)⟩

/-- 0 - Y, modulo 2^256. -/
def negN (Y : Nat) : Nat := M256 - Y % M256

theorem sub_wv (X Y c : Nat) (h1 : Y % M256 ≤ X % M256 + M256 * c) : wv (X % M256 + M256 * c - Y % M256) = wv (X + negN Y) := by
  apply wv_congr
  unfold negN
  have hy : Y % M256 < M256 := Nat.mod_lt _ M256_pos
  have e : X % M256 + M256 * c - Y % M256 + M256 = X % M256 + (M256 - Y % M256) + M256 * c := by omega
  have := congrArg (· % M256) e
  simp only [Nat.add_mod_right, Nat.add_mul_mod_self_left, Nat.mod_add_mod] at this
  exact this

set_option maxHeartbeats 400000 in
set_option maxRecDepth 100000 in
theorem add_any (w : World) (X Y : Nat) : Calls Try.prog 23 #[wv X, wv Y] w fun e w' => e = .returned (wv (X + Y)) ∧ Below w.heap.size w w' := by
  have hc : ∀ w, Calls Try.prog 16 #[wv X, wv Y] w fun e w' => ∃ c : Nat, e = .returned (.tuple #[wv (X + Y), .bool ((c : Int) == 1)]) ∧ Below w.heap.size w w' := fun w =>
    (carry_any w X Y).mono fun e w' ⟨c, h1, _, _, h3⟩ => ⟨c, h1, h3⟩
  obtain ⟨x0, x1, x2, x3, hX⟩ := wv_form X
  obtain ⟨y0, y1, y2, y3, hY⟩ := wv_form Y
  obtain ⟨z0, z1, z2, z3, hZ⟩ := wv_form (X + Y)
  simp only [hX, hY, hZ] at hc ⊢
  clear hX hY hZ
  go_enter Try.func23, Try.ntmps23
  go_wp2_with fail
  refine (hc _).mono ?_
  rintro e w1 ⟨c, rfl, hb⟩
  obtain ⟨hk, q0, q1, q2, q3, f0, f1, f2, f3⟩ := kept4 hb (heap_new2 _ _ _ _)
  have hsz := hb.size
  simp only [World.size_alloc] at hsz
  have hlt : w.heap.size + 1 + 1 < w1.heap.size := by omega
  have hne : ¬ (w.heap.size + 1 + 1 = w1.heap.size) := by omega
  have hne2 : ¬ (w1.heap.size = w.heap.size + 1 + 1) := by omega
  have HB : Hid (Below w.heap.size w w1) := ((((Below.refl _ w).alloc (Nat.le_refl _) _).alloc (by simp) _).alloc (by simp <;> omega) _).trans (hb.mono (by simp <;> omega))
  clear hb hk hc hsz
  go_wp2
  refine bodyPost_ret (v := .agg #[.int .u64 z0, .int .u64 z1, .int .u64 z2, .int .u64 z3]) (by simp [results, Try.results23, go_sem, hlt, q0, q1, q2, q3, World.cell?_setCell_same]) rfl ⟨rfl, ?_⟩
  repeat first | exact HB.out | apply Below.drew | (refine Below.alloc ?_ (by simp <;> omega) _) | (refine Below.setCell ?_ (by simp <;> omega) _)

set_option maxHeartbeats 400000 in
set_option maxRecDepth 100000 in
theorem sub_any (w : World) (X Y : Nat) : Calls Try.prog 25 #[wv X, wv Y] w fun e w' => e = .returned (wv (X + negN Y)) ∧ Below w.heap.size w w' := by
  have hc : ∀ w, Calls Try.prog 17 #[wv X, wv Y] w fun e w' => ∃ c : Nat, e = .returned (.tuple #[wv (X + negN Y), .bool ((c : Int) == 1)]) ∧ Below w.heap.size w w' := fun w =>
    (borrow_any w X Y).mono fun e w' ⟨c, h1, _, h2, _, h3⟩ => ⟨c, by rw [h1, sub_wv X Y c h2], h3⟩
  obtain ⟨x0, x1, x2, x3, hX⟩ := wv_form X
  obtain ⟨y0, y1, y2, y3, hY⟩ := wv_form Y
  obtain ⟨z0, z1, z2, z3, hZ⟩ := wv_form (X + negN Y)
  simp only [hX, hY, hZ] at hc ⊢
  clear hX hY hZ
  go_enter Try.func25, Try.ntmps25
  go_wp2_with fail
  refine (hc _).mono ?_
  rintro e w1 ⟨c, rfl, hb⟩
  obtain ⟨hk, q0, q1, q2, q3, f0, f1, f2, f3⟩ := kept4 hb (heap_new2 _ _ _ _)
  have hsz := hb.size
  simp only [World.size_alloc] at hsz
  have hlt : w.heap.size + 1 + 1 < w1.heap.size := by omega
  have hne : ¬ (w.heap.size + 1 + 1 = w1.heap.size) := by omega
  have hne2 : ¬ (w1.heap.size = w.heap.size + 1 + 1) := by omega
  have HB : Hid (Below w.heap.size w w1) := ((((Below.refl _ w).alloc (Nat.le_refl _) _).alloc (by simp) _).alloc (by simp <;> omega) _).trans (hb.mono (by simp <;> omega))
  clear hb hk hc hsz
  go_wp2
  refine bodyPost_ret (v := .agg #[.int .u64 z0, .int .u64 z1, .int .u64 z2, .int .u64 z3]) (by simp [results, Try.results25, go_sem, hlt, q0, q1, q2, q3, World.cell?_setCell_same]) rfl ⟨rfl, ?_⟩
  repeat first | exact HB.out | apply Below.drew | (refine Below.alloc ?_ (by simp <;> omega) _) | (refine Below.setCell ?_ (by simp <;> omega) _)

end Go.Proofs.Ytpnijncoldihfaa

namespace Go.Proofs.Ytpnijncoldihfaa
open Go.RowKit Go.Shelf

namespace M64
theorem maskN (a : Nat) (ha : a < 18446744073709551616) : bits .and .u64 (a : Int) 4294967295 = ((a % 4294967296 : Nat) : Int) := by
  have h := bits_and_u64_nat a 4294967295 ha (by omega)
  have e : a &&& 4294967295 = a % 4294967296 := Nat.and_two_pow_sub_one_eq_mod a 32
  rw [e] at h
  exact h

theorem divN (a : Nat) : (a : Int) / 4294967296 = ((a / 4294967296 : Nat) : Int) := by omega

theorem mulN (a b : Nat) : (a : Int) * (b : Int) = ((a * b : Nat) : Int) := (Int.natCast_mul a b).symm

theorem addN (a b : Nat) : (a : Int) + (b : Int) = ((a + b : Nat) : Int) := (Int.natCast_add a b).symm

theorem wrapN (a : Nat) (ha : a < 18446744073709551616) : IntKind.u64.wrap (a : Int) = (a : Int) := by rw [IntKind.wrap_u64]; omega

theorem wrapM (a : Nat) : IntKind.u64.wrap (a : Int) = ((a % 18446744073709551616 : Nat) : Int) := by rw [IntKind.wrap_u64]; omega

end M64

set_option maxHeartbeats 1000000 in
theorem mul64_any (x y : Nat) (hx : x < 18446744073709551616) (hy : y < 18446744073709551616) (w : World) :
    Calls Try.prog 119 #[.int .u64 x, .int .u64 y] w fun e w' => e = .returned (.tuple #[.int .u64 ((x * y / 18446744073709551616 : Nat) : Int), .int .u64 ((x * y % 18446744073709551616 : Nat) : Int)]) ∧ w = w' := by
  obtain ⟨bd, bt, bw, hhi⟩ := Lib.mul64_hi x y hx hy
  have ba := Lib.half_mul_le (a := x / 4294967296) (b := y / 4294967296) (by omega) (by omega)
  have bb := Lib.half_mul_le (a := x / 4294967296) (b := y % 4294967296) (by omega) (by omega)
  have bc := Lib.half_mul_le (a := x % 4294967296) (b := y / 4294967296) (by omega) (by omega)
  have ba' : x / 4294967296 * (y / 4294967296) < 18446744073709551616 := by omega
  have bb' : x / 4294967296 * (y % 4294967296) < 18446744073709551616 := by omega
  have bc' : x % 4294967296 * (y / 4294967296) < 18446744073709551616 := by omega
  have bh1 : x / 4294967296 * (y / 4294967296) + (x / 4294967296 * (y % 4294967296) + x % 4294967296 * (y % 4294967296) / 4294967296) / 4294967296 < 18446744073709551616 := by omega
  have bh : x / 4294967296 * (y / 4294967296) + (x / 4294967296 * (y % 4294967296) + x % 4294967296 * (y % 4294967296) / 4294967296) / 4294967296 + ((x / 4294967296 * (y % 4294967296) + x % 4294967296 * (y % 4294967296) / 4294967296) % 4294967296 + x % 4294967296 * (y / 4294967296)) / 4294967296 < 18446744073709551616 := by omega
  go_enter Try.func119, Try.ntmps119
  go_wp2
  simp only [M64.maskN x hx, M64.maskN y hy, M64.divN, M64.mulN, M64.addN, M64.wrapN _ bd, M64.wrapN _ bb', M64.wrapN _ bt, M64.maskN _ bt, M64.wrapN _ bc', M64.wrapN _ bw, M64.wrapN _ ba', M64.wrapN _ bh1, M64.wrapN _ bh, M64.wrapM (x * y)]
  rw [hhi]
  go_ret2
  exact ⟨rfl, rfl⟩

set_option maxHeartbeats 400000 in
set_option maxRecDepth 100000 in
theorem of_any (n : Nat) (hn : n < 18446744073709551616) (w : World) : Calls Try.prog 21 #[.int .u64 n] w fun e w' => e = .returned (wv n) ∧ Below w.heap.size w w' := by
  have hv : Value.agg #[.int .u64 n, .int .u64 0, .int .u64 0, .int .u64 0] = wv n := wv_eq (s1 := 0) (s2 := 0) (s3 := 0) (k := 0) hn (by omega) (by omega) (by omega) (by omega)
  have HV := hideP hv
  clear hv hn
  go_enter Try.func21, Try.ntmps21
  go_wp2
  refine bodyPost_ret (v := .agg #[.int .u64 n, .int .u64 0, .int .u64 0, .int .u64 0]) (by simp [results, Try.results21, go_sem]) rfl ⟨by rw [HV.out], ?_⟩
  repeat first | exact Below.refl _ _ | apply Below.drew | (refine Below.alloc ?_ (by simp <;> omega) _) | (refine Below.setCell ?_ (by simp <;> omega) _)

/-- 2^255. -/
def S255 : Nat := 57896044618658097711785492504343953926634992332820282019728792003956564819968

/-- Below 0, as a signed number. -/
def negB (X : Nat) : Bool := decide (S255 ≤ X % M256)

theorem top_iff {x0 x1 x2 x3 : Nat} (h0 : x0 < 18446744073709551616) (h1 : x1 < 18446744073709551616) (h2 : x2 < 18446744073709551616) : S255 ≤ num x0 x1 x2 x3 ↔ 9223372036854775808 ≤ x3 := by
  unfold S255 num
  omega

set_option maxHeartbeats 400000 in
set_option maxRecDepth 100000 in
theorem isNegative_any (X : Nat) (w : World) : Calls Try.prog 97 #[wv X] w fun e w' => e = .returned (.bool (negB X)) ∧ Below w.heap.size w w' := by
  obtain ⟨x0, x1, x2, x3, h0, h1, h2, h3, eX, hX⟩ := wv_limbs X
  have hn : negB X = ((x3 : Int) / 9223372036854775808 == 1) := by
    unfold negB
    rw [eX, Bool.eq_iff_iff]
    simp only [decide_eq_true_eq, beq_iff_eq]
    rw [top_iff h0 h1 h2]
    omega
  rw [hX, hn]
  clear hX hn eX h0 h1 h2 h3
  go_enter Try.func97, Try.ntmps97
  go_wp2
  go_ret
  refine ⟨rfl, ?_⟩
  repeat first | exact Below.refl _ _ | apply Below.drew | (refine Below.alloc ?_ (by simp <;> omega) _) | (refine Below.setCell ?_ (by simp <;> omega) _)

set_option maxHeartbeats 400000 in
set_option maxRecDepth 100000 in
theorem negate_any (X : Nat) (w : World) : Calls Try.prog 98 #[wv X] w fun e w' => e = .returned (wv (negN X)) ∧ Below w.heap.size w w' := by
  have hc := fun w => sub_any w 0 X
  rw [Nat.zero_add] at hc
  obtain ⟨x0, x1, x2, x3, hX⟩ := wv_form X
  obtain ⟨z0, z1, z2, z3, hZ⟩ := wv_form (negN X)
  have h0 : wv 0 = .agg #[.int .u64 0, .int .u64 0, .int .u64 0, .int .u64 0] := rfl
  simp only [hX, hZ, h0] at hc ⊢
  clear hX hZ h0
  go_enter Try.func98, Try.ntmps98
  go_wp2_with fail
  refine (hc _).mono ?_
  rintro e w1 ⟨rfl, hb⟩
  clear hc
  obtain ⟨hk, q0, q1, q2, q3, f0, f1, f2, f3⟩ := kept4 hb (heap_new1 _ _ _)
  have hsz := hb.size
  simp only [World.size_alloc] at hsz
  have hlt : w.heap.size + 1 < w1.heap.size := by omega
  have hne : ¬ (w.heap.size + 1 = w1.heap.size) := by omega
  have hne2 : ¬ (w1.heap.size = w.heap.size + 1) := by omega
  have HB : Hid (Below w.heap.size w w1) := (((Below.refl _ w).alloc (Nat.le_refl _) _).alloc (by simp) _).trans (hb.mono (by simp <;> omega))
  clear hb hk hsz
  go_wp2
  refine bodyPost_ret (v := .agg #[.int .u64 z0, .int .u64 z1, .int .u64 z2, .int .u64 z3]) (by simp [results, Try.results98, go_sem, q0, q1, q2, q3, World.cell?_setCell_same]) rfl ⟨rfl, ?_⟩
  repeat first | exact HB.out | apply Below.drew | (refine Below.alloc ?_ (by simp <;> omega) _) | (refine Below.setCell ?_ (by simp <;> omega) _)

end Go.Proofs.Ytpnijncoldihfaa

namespace Go.Proofs.Ytpnijncoldihfaa
open Go.RowKit Go.Shelf

theorem prod_le {x y B : Nat} (hx : x < B) (hy : y < B) : x * y + 2 * B ≤ B * B + 1 := by
  have h : x * y ≤ (B - 1) * (B - 1) := Nat.mul_le_mul (by omega) (by omega)
  obtain ⟨C, rfl⟩ : ∃ C, B = C + 1 := ⟨B - 1, by omega⟩
  simp only [Nat.add_sub_cancel] at h
  have e : (C + 1) * (C + 1) = C * C + 2 * C + 1 := by rw [Nat.add_mul, Nat.mul_add]; omega
  omega

set_option maxHeartbeats 400000 in
set_option maxRecDepth 100000 in
theorem multiplyAdd_any (x y a b : Nat) (hx : x < 18446744073709551616) (hy : y < 18446744073709551616) (ha : a < 18446744073709551616) (hb : b < 18446744073709551616) (w : World) :
    Calls Try.prog 91 #[.int .u64 x, .int .u64 y, .int .u64 a, .int .u64 b] w fun e w' => ∃ h l : Nat, e = .returned (.tuple #[.int .u64 h, .int .u64 l]) ∧ (h < 18446744073709551616 ∧ l < 18446744073709551616 ∧ x * y + a + b = l + 18446744073709551616 * h) ∧ w = w' := by
  have hm := mul64_any x y hx hy w
  have hle := prod_le hx hy
  obtain ⟨P, hP⟩ : ∃ P, P = x * y := ⟨_, rfl⟩
  rw [← hP] at hm hle ⊢
  clear hP
  have hlo : P % 18446744073709551616 < 18446744073709551616 := Nat.mod_lt _ (by decide)
  have hP := Nat.mod_add_div P 18446744073709551616
  generalize P % 18446744073709551616 = lo at hm hlo hP
  generalize P / 18446744073709551616 = hi at hm hP
  obtain ⟨l1, c1, i1, j1, e1, k1⟩ := add64_ex0 lo a hlo ha
  obtain ⟨l2, c2, i2, j2, e2, k2⟩ := add64_ex0 l1 b i1 hb
  have hh : hi + c1 + c2 < 18446744073709551616 := by omega
  have HR : Hid (hi + c1 + c2 < 18446744073709551616 ∧ l2 < 18446744073709551616 ∧ P + a + b = l2 + 18446744073709551616 * (hi + c1 + c2)) := ⟨hh, i2, by omega⟩
  have s1 : IntKind.u64.wrap ((hi : Int) + c1) = (hi : Int) + c1 := by rw [IntKind.wrap_u64]; omega
  have s2 : IntKind.u64.wrap ((hi : Int) + c1 + c2) = (hi : Int) + c1 + c2 := by rw [IntKind.wrap_u64]; omega
  clear hle hP hlo i1 j1 e1 i2 j2 e2 hh hx hy ha hb
  go_enter Try.func91, Try.ntmps91
  go_wp2_with (go_at_call 119; refine hm.mono ?_; rintro e w' ⟨rfl, rfl⟩)
  go_ret2
  exact ⟨hi + c1 + c2, l2, by simp, HR.out, rfl⟩

theorem multiplyAdd_ex (x y a b : Nat) (hx : x < 18446744073709551616) (hy : y < 18446744073709551616) (ha : a < 18446744073709551616) (hb : b < 18446744073709551616) :
    ∃ h l : Nat, h < 18446744073709551616 ∧ l < 18446744073709551616 ∧ x * y + a + b = l + 18446744073709551616 * h ∧
      ∀ w, Calls Try.prog 91 #[.int .u64 x, .int .u64 y, .int .u64 a, .int .u64 b] w fun e w' => e = .returned (.tuple #[.int .u64 h, .int .u64 l]) ∧ w = w' := by
  have hB : 0 < 18446744073709551616 := by decide
  have hle := prod_le hx hy
  refine ⟨(x * y + a + b) / 18446744073709551616, (x * y + a + b) % 18446744073709551616, ?_, Nat.mod_lt _ hB, (Nat.mod_add_div _ _).symm, fun w => ?_⟩
  · rw [Nat.div_lt_iff_lt_mul hB]; omega
  · refine (multiplyAdd_any x y a b hx hy ha hb w).mono ?_
    rintro e w' ⟨h, l, rfl, ⟨_, hl, he⟩, rfl⟩
    refine ⟨?_, rfl⟩
    have h1 : (x * y + a + b) / 18446744073709551616 = h := by rw [he, Nat.add_mul_div_left _ _ hB, Nat.div_eq_of_lt hl, Nat.zero_add]
    have h2 : (x * y + a + b) % 18446744073709551616 = l := by rw [he, Nat.add_mul_mod_self_left, Nat.mod_eq_of_lt hl]
    rw [h1, h2]

end Go.Proofs.Ytpnijncoldihfaa
