/-
  How many bits a limb has.
-/
import Derived.Test.YtpnijncoldihfaaTextsC02
import Derived.Lib.Strings
import Derived.Lib.Slices
import Derived.Lib.Small
import Derived.Lib.Walk
import Derived.Lib.BitFns
namespace Go.Proofs.Ytpnijncoldihfaa

namespace Gen
variable {B : Nat}
theorem step_row {x y Q a A c l h : Nat} (e : x * y + a + c = l + B * h) : x * (y + B * Q) + (a + B * A) + c = l + B * (x * Q + A + h) := by
  rw [Nat.mul_add, Nat.mul_add, Nat.mul_add, Nat.mul_left_comm x B Q]; omega

/-- The lowest four limbs of a product. -/
theorem mul4 {x0 x1 x2 x3 y0 y1 y2 y3 l00 l01 l02 l03 l10 l11 l12 l20 l21 l30 h00 h01 h02 h03 h10 h11 h12 h20 h21 h30 : Nat}
    (e00 : x0 * y0 + 0 + 0 = l00 + B * h00) (e01 : x0 * y1 + 0 + h00 = l01 + B * h01) (e02 : x0 * y2 + 0 + h01 = l02 + B * h02) (e03 : x0 * y3 + 0 + h02 = l03 + B * h03)
    (e10 : x1 * y0 + l01 + 0 = l10 + B * h10) (e11 : x1 * y1 + l02 + h10 = l11 + B * h11) (e12 : x1 * y2 + l03 + h11 = l12 + B * h12)
    (e20 : x2 * y0 + l11 + 0 = l20 + B * h20) (e21 : x2 * y1 + l12 + h20 = l21 + B * h21) (e30 : x3 * y0 + l21 + 0 = l30 + B * h30) :
    ∃ K, (x0 + B * (x1 + B * (x2 + B * x3))) * (y0 + B * (y1 + B * (y2 + B * y3))) = l00 + B * (l10 + B * (l20 + B * (l30 + B * K))) := by
  obtain ⟨Y1, hY1⟩ : ∃ Y1, Y1 = y1 + B * (y2 + B * y3) := ⟨_, rfl⟩
  obtain ⟨Y2, hY2⟩ : ∃ Y2, Y2 = y2 + B * y3 := ⟨_, rfl⟩
  -- row 3
  have r3 : x3 * (y0 + B * Y1) + l21 = l30 + B * (x3 * Y1 + h30) := by
    have := step_row (B := B) (Q := Y1) (A := 0) e30
    simpa using this
  have r2 : x2 * (y0 + B * Y1) + (l11 + B * l12) = l20 + B * (l21 + B * (x2 * Y2 + h21)) := by
    have a := step_row (B := B) (Q := Y2) (A := 0) e21
    have b := step_row (B := B) (Q := y1 + B * Y2) (A := l12) e20
    rw [hY1, ← hY2]
    simp only [Nat.mul_zero, Nat.add_zero] at a b
    rw [b, a]
  have r1 : x1 * (y0 + B * Y1) + (l01 + B * (l02 + B * l03)) = l10 + B * (l11 + B * (l12 + B * (x1 * y3 + h12))) := by
    have a := step_row (B := B) (Q := y3) (A := 0) e12
    have b := step_row (B := B) (Q := y2 + B * y3) (A := l03) e11
    have c := step_row (B := B) (Q := y1 + B * (y2 + B * y3)) (A := l02 + B * l03) e10
    rw [hY1]
    simp only [Nat.mul_zero, Nat.add_zero] at a b c
    rw [c, b, a]
  have r0 : x0 * (y0 + B * Y1) = l00 + B * (l01 + B * (l02 + B * (l03 + B * h03))) := by
    have a := step_row (B := B) (Q := 0) (A := 0) e03
    have b := step_row (B := B) (Q := y3) (A := 0) e02
    have c := step_row (B := B) (Q := y2 + B * y3) (A := 0) e01
    have d := step_row (B := B) (Q := y1 + B * (y2 + B * y3)) (A := 0) e00
    rw [hY1]
    simp only [Nat.mul_zero, Nat.add_zero, Nat.zero_add] at a b c d
    rw [d, c, b, a]
  rw [← hY1]
  generalize y0 + B * Y1 = Y at *
  -- from the top limb down
  have t2 : (x2 + B * x3) * Y + (l11 + B * l12) = l20 + B * (l30 + B * (x3 * Y1 + h30 + (x2 * Y2 + h21))) := by
    rw [Nat.add_mul, Nat.mul_assoc]
    have : B * (x3 * Y + l21) = B * (l30 + B * (x3 * Y1 + h30)) := by rw [r3]
    generalize x3 * Y1 + h30 = K at this ⊢
    generalize x2 * Y2 + h21 = K' at r2 ⊢
    simp only [Nat.mul_add] at this r2 ⊢
    omega
  have t1 : (x1 + B * (x2 + B * x3)) * Y + (l01 + B * (l02 + B * l03)) = l10 + B * (l20 + B * (l30 + B * (x3 * Y1 + h30 + (x2 * Y2 + h21) + (x1 * y3 + h12)))) := by
    rw [Nat.add_mul, Nat.mul_assoc]
    have : B * ((x2 + B * x3) * Y + (l11 + B * l12)) = B * (l20 + B * (l30 + B * (x3 * Y1 + h30 + (x2 * Y2 + h21)))) := by rw [t2]
    generalize x3 * Y1 + h30 + (x2 * Y2 + h21) = K at this ⊢
    simp only [Nat.mul_add] at this r1 ⊢
    omega
  refine ⟨x3 * Y1 + h30 + (x2 * Y2 + h21) + (x1 * y3 + h12) + h03, ?_⟩
  rw [Nat.add_mul, Nat.mul_assoc]
  have : B * ((x1 + B * (x2 + B * x3)) * Y + (l01 + B * (l02 + B * l03))) = B * (l10 + B * (l20 + B * (l30 + B * (x3 * Y1 + h30 + (x2 * Y2 + h21) + (x1 * y3 + h12))))) := by rw [t1]
  generalize x3 * Y1 + h30 + (x2 * Y2 + h21) + (x1 * y3 + h12) = K at this ⊢
  simp only [Nat.mul_add] at this r0 ⊢
  omega

/-- All eight limbs of a product. -/
theorem mul8 {x0 x1 x2 x3 y0 y1 y2 y3 l00 l01 l02 l03 l10 l11 l12 l13 l20 l21 l22 l23 l30 l31 l32 l33 h00 h01 h02 h03 h10 h11 h12 h13 h20 h21 h22 h23 h30 h31 h32 h33 : Nat}
    (e00 : x0 * y0 + 0 + 0 = l00 + B * h00) (e01 : x0 * y1 + 0 + h00 = l01 + B * h01) (e02 : x0 * y2 + 0 + h01 = l02 + B * h02) (e03 : x0 * y3 + 0 + h02 = l03 + B * h03)
    (e10 : x1 * y0 + l01 + 0 = l10 + B * h10) (e11 : x1 * y1 + l02 + h10 = l11 + B * h11) (e12 : x1 * y2 + l03 + h11 = l12 + B * h12) (e13 : x1 * y3 + h03 + h12 = l13 + B * h13)
    (e20 : x2 * y0 + l11 + 0 = l20 + B * h20) (e21 : x2 * y1 + l12 + h20 = l21 + B * h21) (e22 : x2 * y2 + l13 + h21 = l22 + B * h22) (e23 : x2 * y3 + h13 + h22 = l23 + B * h23)
    (e30 : x3 * y0 + l21 + 0 = l30 + B * h30) (e31 : x3 * y1 + l22 + h30 = l31 + B * h31) (e32 : x3 * y2 + l23 + h31 = l32 + B * h32) (e33 : x3 * y3 + h23 + h32 = l33 + B * h33) :
    (x0 + B * (x1 + B * (x2 + B * x3))) * (y0 + B * (y1 + B * (y2 + B * y3))) = l00 + B * (l10 + B * (l20 + B * (l30 + B * (l31 + B * (l32 + B * (l33 + B * h33)))))) := by
  have row : ∀ {x a0 a1 a2 a3 m0 m1 m2 m3 g0 g1 g2 g3 : Nat}, x * y0 + a0 + 0 = m0 + B * g0 → x * y1 + a1 + g0 = m1 + B * g1 → x * y2 + a2 + g1 = m2 + B * g2 → x * y3 + a3 + g2 = m3 + B * g3 →
      x * (y0 + B * (y1 + B * (y2 + B * y3))) + (a0 + B * (a1 + B * (a2 + B * a3))) = m0 + B * (m1 + B * (m2 + B * (m3 + B * g3))) := by
    intro x a0 a1 a2 a3 m0 m1 m2 m3 g0 g1 g2 g3 f0 f1 f2 f3
    have a := step_row (B := B) (Q := 0) (A := 0) f3
    have b := step_row (B := B) (Q := y3) (A := a3) f2
    have c := step_row (B := B) (Q := y2 + B * y3) (A := a2 + B * a3) f1
    have d := step_row (B := B) (Q := y1 + B * (y2 + B * y3)) (A := a1 + B * (a2 + B * a3)) f0
    simp only [Nat.mul_zero, Nat.add_zero, Nat.zero_add] at a b c d
    rw [d, c, b, a]
  have r0 := @row x0 0 0 0 0 l00 l01 l02 l03 h00 h01 h02 h03 e00 e01 e02 e03
  have r1 := row e10 e11 e12 e13
  have r2 := row e20 e21 e22 e23
  have r3 := row e30 e31 e32 e33
  simp only [Nat.mul_zero, Nat.add_zero] at r0
  generalize y0 + B * (y1 + B * (y2 + B * y3)) = Y at *
  have t2 : (x2 + B * x3) * Y + (l11 + B * (l12 + B * (l13 + B * h13))) = l20 + B * (l30 + B * (l31 + B * (l32 + B * (l33 + B * h33)))) := by
    rw [Nat.add_mul, Nat.mul_assoc, ← r3, Nat.mul_add B (x3 * Y)]
    omega
  have t1 : (x1 + B * (x2 + B * x3)) * Y + (l01 + B * (l02 + B * (l03 + B * h03))) = l10 + B * (l20 + B * (l30 + B * (l31 + B * (l32 + B * (l33 + B * h33))))) := by
    rw [Nat.add_mul, Nat.mul_assoc, ← t2, Nat.mul_add B (_ * Y)]
    omega
  rw [Nat.add_mul, Nat.mul_assoc, ← t1, Nat.mul_add B (_ * Y)]
  omega

end Gen

end Go.Proofs.Ytpnijncoldihfaa

namespace Go.Proofs.Ytpnijncoldihfaa
open Go.RowKit Go.Shelf

/-- A limb of a number. -/
def limb (N k : Nat) : Nat := N / 18446744073709551616 ^ k % 18446744073709551616

theorem limb_lt (N k : Nat) : limb N k < 18446744073709551616 := Nat.mod_lt _ (by decide)

theorem limb_succ (N k : Nat) : limb N (k + 1) = limb (N / 18446744073709551616) k := by
  unfold limb
  rw [Nat.pow_succ, Nat.mul_comm, Nat.div_div_eq_div_mul]

theorem limb_zero_of {a r : Nat} (h : a < 18446744073709551616) : limb (a + 18446744073709551616 * r) 0 = a := by
  unfold limb
  rw [Nat.pow_zero, Nat.div_one]
  exact (digit_of _ _ _ h).1

theorem limb_succ_of {a r k : Nat} (h : a < 18446744073709551616) : limb (a + 18446744073709551616 * r) (k + 1) = limb r k := by
  rw [limb_succ, (digit_of _ _ _ h).2]

/-- The value of a number of eight limbs. -/
def w8 (N : Nat) : Value := .agg #[.int .u64 (limb N 0), .int .u64 (limb N 1), .int .u64 (limb N 2), .int .u64 (limb N 3), .int .u64 (limb N 4), .int .u64 (limb N 5), .int .u64 (limb N 6), .int .u64 (limb N 7)]

theorem w8_mk {a b c d e f g h k : Nat} (ha : a < 18446744073709551616) (hb : b < 18446744073709551616) (hc : c < 18446744073709551616) (hd : d < 18446744073709551616) (he : e < 18446744073709551616) (hf : f < 18446744073709551616) (hg : g < 18446744073709551616) (hh : h < 18446744073709551616) {N : Nat}
    (hN : N = a + 18446744073709551616 * (b + 18446744073709551616 * (c + 18446744073709551616 * (d + 18446744073709551616 * (e + 18446744073709551616 * (f + 18446744073709551616 * (g + 18446744073709551616 * (h + 18446744073709551616 * k)))))))) :
    Value.agg #[.int .u64 a, .int .u64 b, .int .u64 c, .int .u64 d, .int .u64 e, .int .u64 f, .int .u64 g, .int .u64 h] = w8 N := by
  subst hN
  unfold w8
  simp only [limb_zero_of ha, limb_succ_of ha, limb_zero_of hb, limb_succ_of hb, limb_zero_of hc, limb_succ_of hc, limb_zero_of hd, limb_succ_of hd, limb_zero_of he, limb_succ_of he, limb_zero_of hf, limb_succ_of hf, limb_zero_of hg, limb_succ_of hg, limb_zero_of hh]

theorem wv_limb (X : Nat) : wv X = .agg #[.int .u64 (limb X 0), .int .u64 (limb X 1), .int .u64 (limb X 2), .int .u64 (limb X 3)] := by
  obtain ⟨x0, x1, x2, x3, k, h0, h1, h2, h3, e, hv⟩ := wv_open X
  rw [hv, e]
  simp only [limb_zero_of h0, limb_succ_of h0, limb_zero_of h1, limb_succ_of h1, limb_zero_of h2, limb_succ_of h2, limb_zero_of h3]

end Go.Proofs.Ytpnijncoldihfaa

namespace Go.Proofs.Ytpnijncoldihfaa
open Go.RowKit Go.Shelf

set_option maxHeartbeats 1000000 in
set_option maxRecDepth 100000 in
theorem used_any (w : World) (b n cap : Nat) (f : Nat → Nat) (hn : n ≤ 9) (hc : ∀ j, j < n → w.cell? ⟨b, j, none⟩ = some (.int .u64 (f j))) :
    Calls Try.prog 111 #[.slice (some ⟨b, 0, none⟩) n cap] w fun e w' => (∃ k : Nat, e = .returned (.int .i64 k) ∧ k ≤ n ∧ (∀ j, k ≤ j → j < n → f j = 0) ∧ (0 < k → f (k - 1) ≠ 0)) ∧ w = w' := by
  go_enter Try.func111, Try.ntmps111
  go_wp2_with fail
  go_loop [3, 6] (fun _ i => ∃ k : Nat, k ≤ n ∧ i = .int .i64 k ∧ ∀ j, n - k ≤ j → j < n → f j = 0) (fun _ i => n - (intOf i).toNat)
  case atStart => exact ⟨0, Nat.zero_le _, rfl, fun j h1 h2 => by omega⟩
  case round =>
    obtain ⟨k, hk, rfl, hz⟩ := hrel
    have HZ := hideP hz
    clear hz
    by_cases hlt : k < n
    · obtain ⟨j, hj⟩ : ∃ j, j = n - 1 - k := ⟨_, rfl⟩
      have hcj := hc j (by omega)
      have e1 : IntKind.i64.wrap ((n : Int) - 1) = (n : Int) - 1 := by rw [IntKind.wrap_i64]; omega
      have e2 : IntKind.i64.wrap ((n : Int) - 1 - k) = (j : Int) := by rw [IntKind.wrap_i64]; omega
      have e3 : IntKind.i64.wrap ((n : Int) - k) = (j : Int) + 1 := by rw [IntKind.wrap_i64]; omega
      have e4 : IntKind.i64.wrap ((k : Int) + 1) = (k : Int) + 1 := by rw [IntKind.wrap_i64]; omega
      have hj1 : (j : Int) < n := by omega
      have HJ := hideP hj
      have hlt' : (k : Int) < n := by omega
      clear hj hc
      by_cases hv : f j = 0
      · have hb : ((f j : Int) == 0) = true := by simp [hv]
        have HV := hideP hv
        clear hv
        go_wp2_with fail
        go_round
        case rel =>
          refine ⟨k + 1, by omega, by go_num, fun i h1 h2 => ?_⟩
          have hj := HJ.out
          by_cases hi : i = j
          · rw [hi]; exact HV.out
          · exact HZ.out i (by omega) h2
        case measure => simp [intOf]; omega
      · have hb : ((f j : Int) == 0) = false := by simp; omega
        have HV := hideP hv
        clear hv
        go_wp2_with fail
        go_ret
        have hj := HJ.out
        exact ⟨⟨j + 1, by simp, by omega, fun i h1 h2 => HZ.out i (by omega) h2, fun _ => by simpa using HV.out⟩, rfl⟩
    · have hlt' : ¬ ((k : Int) < n) := by omega
      have hkn : k = n := by omega
      subst hkn
      clear hc hlt' hk
      go_wp2_with fail
      go_ret
      exact ⟨⟨0, rfl, Nat.zero_le _, fun i h1 h2 => HZ.out i (by omega) h2, fun h => by omega⟩, rfl⟩

end Go.Proofs.Ytpnijncoldihfaa

namespace Go.Proofs.Ytpnijncoldihfaa
open Go.RowKit Go.Shelf

set_option maxRecDepth 100000 in
theorem tab_size : (Lib.len8tab.size : Int) = 256 := by
  have : Lib.len8tab.size = 256 := by decide
  omega

theorem wrap_sum (k a b : Nat) (hk : k ≤ 56) (ha : a ≤ 8) (hb : b = k + a) : RowKit.wrap64 ((k : Int) + RowKit.wrap64 (a : Int)) = (b : Int) := by
  unfold RowKit.wrap64
  omega

theorem wrap_twice (a : Nat) (ha : a ≤ 8) : RowKit.wrap64 (RowKit.wrap64 (a : Int)) = (a : Int) := by
  unfold RowKit.wrap64
  omega

theorem tab_get (y : Int) (h : y.toNat < Lib.len8tab.size) : ((Lib.len8tab[y.toNat]'h).toNat : Int) = Lib.len8 y := by
  unfold Lib.len8
  rw [getElem?_pos Lib.len8tab y.toNat h]
  rfl

set_option maxHeartbeats 8000000 in
set_option maxRecDepth 1000000 in
theorem len64_int (x : Int) (w : World) (h0 : 0 ≤ x) (h1 : x ≤ 18446744073709551615) :
    Calls Try.prog 112 #[.int .u64 x] w fun e w' => e = .returned (.int .i64 (Lib.bitLen x.toNat)) ∧ w = w' := by
  go_enter Try.func112, Try.ntmps112
  go_wp2
  all_goals first
    | (go_ret; refine ⟨congrArg Ending.returned (congrArg (Value.int IntKind.i64) ?_), rfl⟩)
    | (exfalso
       have hs := tab_size
       omega)
  all_goals first
    | (rw [tab_get (x / 4294967296 / 65536 / 256) _, Lib.len8_of (x / 4294967296 / 65536 / 256) (by omega) (by omega)]
       have e : (x / 4294967296 / 65536 / 256).toNat = x.toNat / 72057594037927936 := by omega
       have l := Lib.bitLen_le8' (x / 4294967296 / 65536 / 256) (by omega) (by omega)
       have s := Lib.bitLen_shift56 x.toNat (by omega) (by omega)
       rw [e] at l ⊢
       exact wrap_sum 56 _ _ (by decide) l s)
    | (rw [tab_get (x / 4294967296 / 65536) _, Lib.len8_of (x / 4294967296 / 65536) (by omega) (by omega)]
       have e : (x / 4294967296 / 65536).toNat = x.toNat / 281474976710656 := by omega
       have l := Lib.bitLen_le8' (x / 4294967296 / 65536) (by omega) (by omega)
       have s := Lib.bitLen_shift48 x.toNat (by omega) (by omega)
       rw [e] at l ⊢
       exact wrap_sum 48 _ _ (by decide) l s)
    | (rw [tab_get (x / 4294967296 / 256) _, Lib.len8_of (x / 4294967296 / 256) (by omega) (by omega)]
       have e : (x / 4294967296 / 256).toNat = x.toNat / 1099511627776 := by omega
       have l := Lib.bitLen_le8' (x / 4294967296 / 256) (by omega) (by omega)
       have s := Lib.bitLen_shift40 x.toNat (by omega) (by omega)
       rw [e] at l ⊢
       exact wrap_sum 40 _ _ (by decide) l s)
    | (rw [tab_get (x / 4294967296) _, Lib.len8_of (x / 4294967296) (by omega) (by omega)]
       have e : (x / 4294967296).toNat = x.toNat / 4294967296 := by omega
       have l := Lib.bitLen_le8' (x / 4294967296) (by omega) (by omega)
       have s := Lib.bitLen_shift32 x.toNat (by omega) (by omega)
       rw [e] at l ⊢
       exact wrap_sum 32 _ _ (by decide) l s)
    | (rw [tab_get (x / 65536 / 256) _, Lib.len8_of (x / 65536 / 256) (by omega) (by omega)]
       have e : (x / 65536 / 256).toNat = x.toNat / 16777216 := by omega
       have l := Lib.bitLen_le8' (x / 65536 / 256) (by omega) (by omega)
       have s := Lib.bitLen_shift24 x.toNat (by omega) (by omega)
       rw [e] at l ⊢
       exact wrap_sum 24 _ _ (by decide) l s)
    | (rw [tab_get (x / 65536) _, Lib.len8_of (x / 65536) (by omega) (by omega)]
       have e : (x / 65536).toNat = x.toNat / 65536 := by omega
       have l := Lib.bitLen_le8' (x / 65536) (by omega) (by omega)
       have s := Lib.bitLen_shift16 x.toNat (by omega) (by omega)
       rw [e] at l ⊢
       exact wrap_sum 16 _ _ (by decide) l s)
    | (rw [tab_get (x / 256) _, Lib.len8_of (x / 256) (by omega) (by omega)]
       have e : (x / 256).toNat = x.toNat / 256 := by omega
       have l := Lib.bitLen_le8' (x / 256) (by omega) (by omega)
       have s := Lib.bitLen_shift8 x.toNat (by omega) (by omega)
       rw [e] at l ⊢
       exact wrap_sum 8 _ _ (by decide) l s)
    | (rw [tab_get x _, Lib.len8_of x (by omega) (by omega)]
       exact wrap_twice _ (Lib.bitLen_le8' x (by omega) (by omega)))

theorem len64_any (x : Nat) (w : World) (h : x < 18446744073709551616) :
    Calls Try.prog 112 #[.int .u64 x] w fun e w' => e = .returned (.int .i64 (Lib.bitLen x)) ∧ w = w' := by
  have := len64_int x w (by omega) (by omega)
  simpa using this

end Go.Proofs.Ytpnijncoldihfaa
