/-
  How a division of two limbs by one is set up.
-/
import Derived.Test.YtpnijncoldihfaaTextsC03
namespace Go.Proofs.Ytpnijncoldihfaa

namespace D64

/-- One step of the schoolbook: what holds at the loop's head. -/
structure Inv (B V y1 y0 u u1 q r : Nat) : Prop where
  sum : q * y1 + r = u
  up : u * B + u1 < (q + 1) * V
  lt : r < B

theorem le_of_small {B V y1 y0 u u1 q r : Nat} (hV : V = y1 * B + y0) (hs : q * y1 + r = u) (hq : q * y0 ≤ B * r + u1) : q * V ≤ u * B + u1 := by
  subst hV hs
  have e1 : q * (y1 * B + y0) = q * y1 * B + q * y0 := by rw [Nat.mul_add, Nat.mul_assoc]
  have e2 : (q * y1 + r) * B = q * y1 * B + B * r := by rw [Nat.add_mul, Nat.mul_comm r B]
  omega

theorem gt_of_great {B V y1 y0 u u1 q r : Nat} (hV : V = y1 * B + y0) (hs : q * y1 + r = u) (hq : B * r + u1 < q * y0) : u * B + u1 < q * V := by
  subst hV hs
  have e1 : q * (y1 * B + y0) = q * y1 * B + q * y0 := by rw [Nat.mul_add, Nat.mul_assoc]
  have e2 : (q * y1 + r) * B = q * y1 * B + B * r := by rw [Nat.add_mul, Nat.mul_comm r B]
  omega

theorem quot {U V q : Nat} (h1 : q * V ≤ U) (h2 : U < (q + 1) * V) : q = U / V ∧ U - q * V = U % V ∧ U % V = U - q * V := by
  have hV : 0 < V := by
    rcases Nat.eq_zero_or_pos V with rfl | h
    · simp at h2
    · exact h
  have : U / V = q := Nat.div_eq_of_lt_le h1 h2
  have e := Nat.div_add_mod U V
  rw [this, Nat.mul_comm] at e
  omega

/-- Where the loop ends because the guess is good. -/
theorem Inv.stop {B V y1 y0 u u1 q r : Nat} (hV : V = y1 * B + y0) (I : Inv B V y1 y0 u u1 q r) (hq : q * y0 ≤ B * r + u1) : q = (u * B + u1) / V :=
  (quot (le_of_small hV I.sum hq) I.up).1

theorem Inv.start {B V y1 y0 u u1 : Nat} (hV : V = y1 * B + y0) (hy1 : 0 < y1) (hB : y1 < B) (hu1 : u1 < B) : Inv B V y1 y0 u u1 (u / y1) (u % y1) := by
  refine ⟨?_, ?_, Nat.lt_trans (Nat.mod_lt _ hy1) hB⟩
  · rw [Nat.mul_comm]; exact Nat.div_add_mod u y1
  · have h := Nat.lt_mul_div_succ u hy1
    rw [Nat.mul_comm] at h
    have h2 : (u + 1) * B ≤ (u / y1 + 1) * y1 * B := Nat.mul_le_mul_right B h
    subst hV
    have e : (u / y1 + 1) * (y1 * B + y0) = (u / y1 + 1) * y1 * B + (u / y1 + 1) * y0 := by rw [Nat.mul_add, Nat.mul_assoc]
    rw [Nat.add_mul] at h2
    omega

/-- The loop's round: the guess is too great. -/
theorem Inv.great {B V y1 y0 u u1 q r : Nat} (hV : V = y1 * B + y0) (I : Inv B V y1 y0 u u1 q r) (hu : u < V) (hu1 : u1 < B) (hg : B ≤ q ∨ B * r + u1 < q * y0) :
    0 < q ∧ (q - 1) * y1 + (r + y1) = u ∧ u * B + u1 < q * V := by
  have h : u * B + u1 < q * V := by
    rcases hg with h | h
    · have h1 : (u + 1) * B ≤ V * B := Nat.mul_le_mul_right B hu
      have h2 : B * V ≤ q * V := Nat.mul_le_mul_right V h
      rw [Nat.add_mul] at h1
      rw [Nat.mul_comm B V] at h2
      omega
    · exact gt_of_great hV I.sum h
  have hq : 0 < q := by
    rcases Nat.eq_zero_or_pos q with rfl | h'
    · simp at h
    · exact h'
  refine ⟨hq, ?_, h⟩
  have := I.sum
  obtain ⟨k, rfl⟩ : ∃ k, q = k + 1 := ⟨q - 1, by omega⟩
  rw [Nat.add_mul] at this
  simp only [Nat.add_sub_cancel]
  omega

theorem Inv.back {B V y1 y0 u u1 q r : Nat} (hV : V = y1 * B + y0) (I : Inv B V y1 y0 u u1 q r) (hu : u < V) (hu1 : u1 < B) (hg : B ≤ q ∨ B * r + u1 < q * y0) (hr : r + y1 < B) :
    Inv B V y1 y0 u u1 (q - 1) (r + y1) := by
  obtain ⟨h0, h1, h2⟩ := I.great hV hu hu1 hg
  exact ⟨h1, by rwa [Nat.sub_add_cancel h0], hr⟩

theorem Inv.broke {B V y1 y0 u u1 q r : Nat} (hV : V = y1 * B + y0) (hy0 : y0 < B) (I : Inv B V y1 y0 u u1 q r) (hu : u < V) (hu1 : u1 < B) (hg : B ≤ q ∨ B * r + u1 < q * y0) (hr : B ≤ r + y1) :
    q - 1 = (u * B + u1) / V ∧ q - 1 < B := by
  obtain ⟨h0, h1, h2⟩ := I.great hV hu hu1 hg
  have hlt : q - 1 < B := by
    apply Nat.lt_of_not_le
    intro hc
    have h3 : B * y1 ≤ (q - 1) * y1 := Nat.mul_le_mul_right y1 hc
    rw [Nat.mul_comm] at h3
    omega
  refine ⟨(quot (le_of_small hV h1 ?_) (by rwa [Nat.sub_add_cancel h0])).1, hlt⟩
  have h4 : (q - 1) * y0 ≤ B * B := Nat.mul_le_mul (by omega) (by omega)
  have h5 : B * B ≤ B * (r + y1) := Nat.mul_le_mul_left B hr
  omega

end D64
namespace D64
theorem raise_eq (hi lo s : Nat) (hs : s ≤ 64) :
    (hi * 2 ^ s + lo / 2 ^ (64 - s)) * 2 ^ 64 + lo * 2 ^ s % 2 ^ 64 = (hi * 2 ^ 64 + lo) * 2 ^ s := by
  have e : (2 : Nat) ^ 64 = 2 ^ (64 - s) * 2 ^ s := by rw [← Nat.pow_add]; congr 1; omega
  have h1 : lo * 2 ^ s / 2 ^ 64 = lo / 2 ^ (64 - s) := by rw [e, Nat.mul_div_mul_right _ _ (Nat.two_pow_pos s)]
  have h2 := Nat.div_add_mod (lo * 2 ^ s) (2 ^ 64)
  rw [h1] at h2
  rw [Nat.add_mul, Nat.add_mul, Nat.mul_right_comm hi, Nat.mul_comm (lo / 2 ^ (64 - s))]
  omega

theorem raise_lt (hi lo y s : Nat) (hs : s ≤ 64) (h : hi < y) (hlo : lo < 2 ^ 64) : hi * 2 ^ s + lo / 2 ^ (64 - s) < y * 2 ^ s := by
  have e : (2 : Nat) ^ 64 = 2 ^ (64 - s) * 2 ^ s := by rw [← Nat.pow_add]; congr 1; omega
  have h1 : lo / 2 ^ (64 - s) < 2 ^ s := by
    rw [Nat.div_lt_iff_lt_mul (Nat.two_pow_pos _), Nat.mul_comm, ← e]; exact hlo
  have h2 : (hi + 1) * 2 ^ s ≤ y * 2 ^ s := Nat.mul_le_mul_right _ h
  rw [Nat.add_mul] at h2
  omega

/-- The two limbs of the quotient, and the rest. -/
theorem fin {y s V u u1 u0 q1 q0 B : Nat} {M : Nat} (hV : V = y * 2 ^ s) (hy : 0 < y) (hN : u * (B * B) + (u1 * B + u0) = M * 2 ^ s) (h1 : q1 = (u * B + u1) / V) (h0 : q0 = ((u * B + u1) % V * B + u0) / V) :
    q1 * B + q0 = M / y ∧ ((u * B + u1) % V * B + u0) % V / 2 ^ s = M % y := by
  have hVp : 0 < V := by rw [hV]; exact Nat.mul_pos hy (Nat.two_pow_pos s)
  have d1 := Nat.div_add_mod (u * B + u1) V
  have d0 := Nat.div_add_mod ((u * B + u1) % V * B + u0) V
  rw [← h1] at d1
  rw [← h0] at d0
  have hlt := Nat.mod_lt ((u * B + u1) % V * B + u0) hVp
  generalize ((u * B + u1) % V * B + u0) % V = r at d0 hlt ⊢
  generalize (u * B + u1) % V = m at d0 d1 h0
  have e : M * 2 ^ s = V * (q1 * B + q0) + r := by
    rw [← hN, Nat.mul_add]
    have e1 : (u * B + u1) * B = (V * q1 + m) * B := by rw [d1]
    rw [Nat.add_mul, Nat.add_mul, Nat.mul_assoc, Nat.mul_assoc V] at e1
    have e2 : V * (q1 * B) + (m * B + u0) = V * (q1 * B) + (V * q0 + r) := by rw [d0]
    omega
  have eq : M * 2 ^ s / V = q1 * B + q0 := by
    rw [e, Nat.mul_add_div hVp, Nat.div_eq_of_lt hlt, Nat.add_zero]
  have em : M * 2 ^ s % V = r := by
    rw [e, Nat.mul_add_mod, Nat.mod_eq_of_lt hlt]
  rw [hV, Nat.mul_div_mul_right _ _ (Nat.two_pow_pos s)] at eq
  rw [hV, Nat.mul_mod_mul_right] at em
  exact ⟨eq.symm, by rw [← em, Nat.mul_div_cancel _ (Nat.two_pow_pos s)]⟩

end D64

end Go.Proofs.Ytpnijncoldihfaa

namespace Go.Proofs.Ytpnijncoldihfaa
open Go.RowKit Go.Shelf

theorem bitLen_pos {x : Nat} (h : 0 < x) (hx : x < 18446744073709551616) : 1 ≤ Lib.bitLen x ∧ Lib.bitLen x ≤ 64 := by
  refine ⟨?_, Lib.bitLen_le x 64 (by omega) (by simpa using hx)⟩
  have := Lib.bitLen_half x (by omega) (by simpa using hx)
  omega

theorem bitLen_upper : ∀ (k x : Nat), x < 2 ^ 64 → Lib.bitLen x ≤ k → x < 2 ^ k
  | 0, x, hx, h => by
    rcases Nat.eq_zero_or_pos x with rfl | h0
    · simp
    · have := Lib.bitLen_half x (by omega) hx; omega
  | k + 1, x, hx, h => by
    rcases Nat.eq_zero_or_pos x with rfl | h0
    · exact Nat.two_pow_pos _
    · have h1 := Lib.bitLen_half x (by omega) hx
      have h2 := bitLen_upper k (x / 2) (by omega) (by omega)
      rw [Nat.pow_succ]; omega

theorem bitLen_lower {x k : Nat} (hk : k ≤ 64) (h : k < Lib.bitLen x) : 2 ^ k ≤ x := by
  apply Nat.le_of_not_lt
  intro hc
  have := Lib.bitLen_le x k hk hc
  omega

set_option maxHeartbeats 400000 in
set_option maxRecDepth 100000 in
theorem lz64_any (x : Nat) (w : World) (h : x < 18446744073709551616) :
    Calls Try.prog 128 #[.int .u64 x] w fun e w' => e = .returned (.int .i64 ((64 - Lib.bitLen x : Nat) : Int)) ∧ w = w' := by
  have hc := fun w => len64_any x w h
  have hl := Lib.bitLen_le x 64 (by omega) (by simpa using h)
  generalize Lib.bitLen x = b at hc hl ⊢
  have s : IntKind.i64.wrap (64 - (b : Int)) = ((64 - b : Nat) : Int) := by rw [show (64 : Int) - b = ((64 - b : Nat) : Int) by omega]; rw [IntKind.wrap_i64]; omega
  go_enter Try.func128, Try.ntmps128
  go_wp2_with (go_at_call 112; refine (hc _).mono ?_; rintro e w' ⟨rfl, rfl⟩)
  go_ret
  exact ⟨rfl, rfl⟩

end Go.Proofs.Ytpnijncoldihfaa

namespace Go.Proofs.Ytpnijncoldihfaa
open Go.RowKit Go.Shelf

theorem u64_wrap_nat (a : Nat) (h : a < 18446744073709551616) : IntKind.u64.wrap (a : Int) = (a : Int) := by rw [IntKind.wrap_u64]; omega

structure DSet (hi lo y s V y1 y0 u L u1 u0 : Nat) : Prop where
  hs : s < 64
  hV : V = y * 2 ^ s
  hV1 : V < 18446744073709551616
  hV2 : V = y1 * 4294967296 + y0
  hy0 : y0 < 4294967296
  hy1 : y1 < 4294967296
  hy1' : 2147483648 ≤ y1
  hu : u < V
  hL : L < 18446744073709551616
  hL2 : L = u1 * 4294967296 + u0
  hu1 : u1 < 4294967296
  hu0 : u0 < 4294967296
  hN : u * 18446744073709551616 + L = (hi * 18446744073709551616 + lo) * 2 ^ s
  eV : IntKind.u64.wrap ((y : Int) * 2 ^ min (IntKind.u64.wrap (s : Int)).toNat 64) = (V : Int)
  eY1 : (V : Int) / 4294967296 = (y1 : Int)
  eY0 : bits .and .u64 (V : Int) 4294967295 = (y0 : Int)
  eU : bits .or .u64 (IntKind.u64.wrap ((hi : Int) * 2 ^ min (IntKind.u64.wrap (s : Int)).toNat 64)) ((lo : Int) / 2 ^ min (IntKind.u64.wrap (64 - IntKind.u64.wrap (s : Int))).toNat 64) = (u : Int)
  eL : IntKind.u64.wrap ((lo : Int) * 2 ^ min (IntKind.u64.wrap (s : Int)).toNat 64) = (L : Int)
  eL1 : (L : Int) / 4294967296 = (u1 : Int)
  eL0 : bits .and .u64 (L : Int) 4294967295 = (u0 : Int)

theorem dset (hi lo y s : Nat) (h1 : hi < y) (hy : y < 18446744073709551616) (hlo : lo < 18446744073709551616) (hs : s = 64 - Lib.bitLen y) :
    ∃ V y1 y0 u L u1 u0, DSet hi lo y s V y1 y0 u L u1 u0 := by
  have hb := bitLen_pos (x := y) (by omega) hy
  have hs64 : s < 64 := by omega
  have hup := bitLen_upper (Lib.bitLen y) y (by simpa using hy) (Nat.le_refl _)
  have hlow := bitLen_lower (x := y) (k := Lib.bitLen y - 1) (by omega) (by omega)
  have hV1 : y * 2 ^ s < 18446744073709551616 := by
    have : y * 2 ^ s < 2 ^ Lib.bitLen y * 2 ^ s := Nat.mul_lt_mul_of_pos_right hup (Nat.two_pow_pos s)
    rw [← Nat.pow_add, show Lib.bitLen y + s = 64 by omega] at this
    simpa using this
  have hV0 : 9223372036854775808 ≤ y * 2 ^ s := by
    have : 2 ^ (Lib.bitLen y - 1) * 2 ^ s ≤ y * 2 ^ s := Nat.mul_le_mul_right _ hlow
    rw [← Nat.pow_add, show Lib.bitLen y - 1 + s = 63 by omega] at this
    simpa using this
  have hw : IntKind.u64.wrap (s : Int) = (s : Int) := u64_wrap_nat s (by omega)
  have hm : min ((s : Int).toNat) 64 = s := by simp; omega
  have hw2 : IntKind.u64.wrap (64 - (s : Int)) = ((64 - s : Nat) : Int) := by
    rw [show (64 : Int) - s = ((64 - s : Nat) : Int) by omega]
    exact u64_wrap_nat _ (by omega)
  have hm2 : min (((64 - s : Nat) : Int).toNat) 64 = 64 - s := by simp
  have hu := D64.raise_lt hi lo y s (by omega) h1 (by simpa using hlo)
  have hN := D64.raise_eq hi lo s (by omega)
  have hhi : hi * 2 ^ s < 18446744073709551616 := Nat.lt_of_le_of_lt (Nat.le_add_right _ _) (Nat.lt_trans hu hV1)
  have hlq : lo / 2 ^ (64 - s) < 18446744073709551616 := Nat.lt_of_le_of_lt (Nat.div_le_self _ _) hlo
  have hlq2 : lo / 2 ^ (64 - s) < 2 ^ s := by
    rw [Nat.div_lt_iff_lt_mul (Nat.two_pow_pos _), ← Nat.pow_add, show s + (64 - s) = 64 by omega]
    simpa using hlo
  have hL : lo * 2 ^ s % 18446744073709551616 < 18446744073709551616 := Nat.mod_lt _ (by decide)
  refine ⟨y * 2 ^ s, y * 2 ^ s / 4294967296, y * 2 ^ s % 4294967296, hi * 2 ^ s + lo / 2 ^ (64 - s), lo * 2 ^ s % 18446744073709551616, lo * 2 ^ s % 18446744073709551616 / 4294967296, lo * 2 ^ s % 18446744073709551616 % 4294967296, ?_⟩
  refine ⟨hs64, rfl, hV1, by omega, by omega, by omega, by omega, hu, hL, by omega, by omega, by omega, ?_, ?_, ?_, ?_, ?_, ?_, ?_, ?_⟩
  · simpa using hN
  · rw [hw, hm, show ((y : Int) * 2 ^ s) = ((y * 2 ^ s : Nat) : Int) by simp]
    exact u64_wrap_nat _ hV1
  · omega
  · exact M64.maskN _ hV1
  · rw [hw, hm, hw2, hm2, show ((hi : Int) * 2 ^ s) = ((hi * 2 ^ s : Nat) : Int) by simp, u64_wrap_nat _ hhi, show ((lo : Int) / 2 ^ (64 - s)) = ((lo / 2 ^ (64 - s) : Nat) : Int) by simp, bits_or_u64_nat _ _ hhi hlq]
    congr 1
    rw [← Nat.shiftLeft_eq, Nat.shiftLeft_add_eq_or_of_lt hlq2]
  · rw [hw, hm, show ((lo : Int) * 2 ^ s) = ((lo * 2 ^ s : Nat) : Int) by simp, IntKind.wrap_u64]
    omega
  · omega
  · exact M64.maskN _ hL

end Go.Proofs.Ytpnijncoldihfaa
