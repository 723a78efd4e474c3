/-
  The next product modulo a number.
-/
import Derived.Test.YtpnijncoldihfaaTextsC37
import Derived.Test.YtpnijncoldihfaaTextsC34
import Derived.Test.YtpnijncoldihfaaTextsC22
import Derived.Test.YtpnijncoldihfaaTextsC19
namespace Go.Proofs.Ytpnijncoldihfaa
open Go.RowKit Go.Shelf

set_option maxHeartbeats 1000000 in
set_option maxRecDepth 100000 in
theorem hex_ff (w : World) : Calls Try.prog 76 #[wv 255] w fun e w' => e = .returned (.string ⟨#[48, 120, 102, 102]⟩) ∧ Below w.heap.size w w' := by
  have h := fun W => digits_ff W
  rw [wv_small (by omega)]
  have H := hideP h
  clear h
  go_enter Try.func76, Try.ntmps76
  go_wp2_with fail
  refine (H.out _).mono ?_
  rintro e w1 ⟨rfl, hb⟩
  have HB1 : Hid (Below w.heap.size w w1) := by
    first
      | exact ((Below.refl _ w).alloc (Nat.le_refl _) _).trans (hb.mono (by simp))
      | exact hb
  clear hb
  go_wp2_with fail
  go_ret
  exact ⟨congrArg Ending.returned (congrArg Value.string (by decide +kernel)), HB1.out⟩

end Go.Proofs.Ytpnijncoldihfaa

namespace Go.Proofs.Ytpnijncoldihfaa
open Go.RowKit Go.Shelf

theorem aw_h1 (W : World) : Calls Try.prog 74 #[.string ⟨#[48, 120, 70, 102]⟩] W fun e w' => e = .returned (.tuple #[.agg #[.int .u64 255, .int .u64 0, .int .u64 0, .int .u64 0], .int .i64 0]) ∧ Below W.heap.size W w' := by
    have h := parse_ff W
    rwa [wv_small (by omega)] at h

theorem aw_h2 (W : World) : Calls Try.prog 23 #[.agg #[.int .u64 18446744073709551615, .int .u64 18446744073709551615, .int .u64 18446744073709551615, .int .u64 18446744073709551615], .agg #[.int .u64 1, .int .u64 0, .int .u64 0, .int .u64 0]] W fun e w' => e = .returned (.agg #[.int .u64 0, .int .u64 0, .int .u64 0, .int .u64 0]) ∧ Below W.heap.size W w' := add_any W 115792089237316195423570985008687907853269984665640564039457584007913129639935 1

theorem aw_h3 (W : World) : Calls Try.prog 25 #[.agg #[.int .u64 0, .int .u64 0, .int .u64 0, .int .u64 0], .agg #[.int .u64 7, .int .u64 0, .int .u64 0, .int .u64 0]] W fun e w' => e = .returned (.agg #[.int .u64 18446744073709551609, .int .u64 18446744073709551615, .int .u64 18446744073709551615, .int .u64 18446744073709551615]) ∧ Below W.heap.size W w' := sub_any W 0 7

theorem aw_h4 (W : World) : Calls Try.prog 37 #[.agg #[.int .u64 18446744073709551609, .int .u64 18446744073709551615, .int .u64 18446744073709551615, .int .u64 18446744073709551615], .agg #[.int .u64 2, .int .u64 0, .int .u64 0, .int .u64 0]] W fun e w' => e = .returned (.agg #[.int .u64 18446744073709551613, .int .u64 18446744073709551615, .int .u64 18446744073709551615, .int .u64 18446744073709551615]) ∧ Below W.heap.size W w' := by
  have h := sdiv_neg (negN 7) 2 (by decide) (by decide) (by omega) (by omega) W
  have e1 : wv (negN 7) = .agg #[.int .u64 18446744073709551609, .int .u64 18446744073709551615, .int .u64 18446744073709551615, .int .u64 18446744073709551615] := by kernel_rfl
  have e2 : wv 2 = .agg #[.int .u64 2, .int .u64 0, .int .u64 0, .int .u64 0] := by kernel_rfl
  have e3 : wv (negN (negN (negN 7) % M256 / 2)) = .agg #[.int .u64 18446744073709551613, .int .u64 18446744073709551615, .int .u64 18446744073709551615, .int .u64 18446744073709551615] := by kernel_rfl
  rw [e1, e2, e3] at h
  exact h

theorem aw_h5 (W : World) : Calls Try.prog 25 #[.agg #[.int .u64 0, .int .u64 0, .int .u64 0, .int .u64 0], .agg #[.int .u64 3, .int .u64 0, .int .u64 0, .int .u64 0]] W fun e w' => e = .returned (.agg #[.int .u64 18446744073709551613, .int .u64 18446744073709551615, .int .u64 18446744073709551615, .int .u64 18446744073709551615]) ∧ Below W.heap.size W w' := sub_any W 0 3

theorem aw_h6 (W : World) : Calls Try.prog 43 #[.agg #[.int .u64 18446744073709551615, .int .u64 18446744073709551615, .int .u64 18446744073709551615, .int .u64 18446744073709551615], .agg #[.int .u64 18446744073709551615, .int .u64 18446744073709551615, .int .u64 18446744073709551615, .int .u64 18446744073709551615], .agg #[.int .u64 12, .int .u64 0, .int .u64 0, .int .u64 0]] W fun e w' => e = .returned (.agg #[.int .u64 9, .int .u64 0, .int .u64 0, .int .u64 0]) ∧ Below W.heap.size W w' := mulMod_small 115792089237316195423570985008687907853269984665640564039457584007913129639935 115792089237316195423570985008687907853269984665640564039457584007913129639935 12 (by omega) (by omega) W

theorem aw_h7 (W : World) : Calls Try.prog 45 #[.agg #[.int .u64 3, .int .u64 0, .int .u64 0, .int .u64 0], .agg #[.int .u64 5, .int .u64 0, .int .u64 0, .int .u64 0]] W fun e w' => e = .returned (.agg #[.int .u64 243, .int .u64 0, .int .u64 0, .int .u64 0]) ∧ Below W.heap.size W w' := exp_any 3 5 W

theorem aw_h8 (W : World) : Calls Try.prog 76 #[.agg #[.int .u64 255, .int .u64 0, .int .u64 0, .int .u64 0]] W fun e w' => e = .returned (.string ⟨#[48, 120, 102, 102]⟩) ∧ Below W.heap.size W w' := by
    have h := hex_ff W
    rwa [wv_small (by omega)] at h

theorem aw_eq0 (W : World) : (Op.equalIn 10000 24 (.agg #[.int .u64 0, .int .u64 0, .int .u64 0, .int .u64 0]) (.agg #[.int .u64 0, .int .u64 0, .int .u64 0, .int .u64 0])).run Try.prog W = .ok true W := by kernel_rfl

theorem aw_eq1 (W : World) : (Op.equalIn 10000 24 (.agg #[.int .u64 18446744073709551613, .int .u64 18446744073709551615, .int .u64 18446744073709551615, .int .u64 18446744073709551615]) (.agg #[.int .u64 18446744073709551613, .int .u64 18446744073709551615, .int .u64 18446744073709551615, .int .u64 18446744073709551615])).run Try.prog W = .ok true W := by kernel_rfl

theorem aw_eq2 (W : World) : (Op.equalIn 10000 24 (.agg #[.int .u64 9, .int .u64 0, .int .u64 0, .int .u64 0]) (.agg #[.int .u64 9, .int .u64 0, .int .u64 0, .int .u64 0])).run Try.prog W = .ok true W := by kernel_rfl

theorem aw_eq3 (W : World) : (Op.equalIn 10000 24 (.agg #[.int .u64 243, .int .u64 0, .int .u64 0, .int .u64 0]) (.agg #[.int .u64 243, .int .u64 0, .int .u64 0, .int .u64 0])).run Try.prog W = .ok true W := by kernel_rfl

theorem aw_eq4 (W : World) : (Op.equalIn 10000 24 (.agg #[.int .u64 255, .int .u64 0, .int .u64 0, .int .u64 0]) (.agg #[.int .u64 255, .int .u64 0, .int .u64 0, .int .u64 0])).run Try.prog W = .ok true W := by kernel_rfl

set_option maxHeartbeats 2000000 in
set_option maxRecDepth 100000 in
theorem awake_any (w : World) : Calls Try.prog 32 #[] w fun e w' => e = .returned (.bool true) ∧ Below w.heap.size w w' := by
  have eq0 := aw_eq0
  have eq1 := aw_eq1
  have eq2 := aw_eq2
  have eq3 := aw_eq3
  have eq4 := aw_eq4
  go_enter Try.func32, Try.ntmps32
  go_wp2_with fail
  refine (aw_h1 _).mono ?_
  rintro e w1 ⟨rfl, hb⟩
  obtain ⟨ha, a0, a1, a2, a3, _, _, _, _⟩ := kept4 hb (heap_new _ _)
  have HB1 : Hid (Below w.heap.size w w1) := ((Below.refl _ w).alloc (Nat.le_refl _) _).trans (hb.mono (by simp))
  have HA := hideP ha
  have hs1 := hb.size
  simp only [World.size_alloc] at hs1
  have l1 : w.heap.size < w1.heap.size := by omega
  have l2 : ¬ (w.heap.size = w1.heap.size) := by omega
  clear hb ha hs1
  go_wp2_with fail
  refine (aw_h2 _).mono ?_
  rintro e w2 ⟨rfl, hb⟩
  have HA2 := hideP (kept4 hb ((heap_old _ _ (Array.getElem?_eq_some_iff.1 HA.out).1).trans HA.out)).1
  have HP2 := hideP (kept4 hb (heap_new _ _)).1
  have HB2 : Hid (Below w.heap.size w w2) := (HB1.out.alloc HB1.out.size _).trans (hb.mono (Nat.le_trans HB1.out.size (by simp)))
  clear hb a0 a1 a2 a3
  obtain ⟨a0, a1, a2, a3⟩ := cells4 HA2.out
  obtain ⟨p0, p1, p2, p3⟩ := cells4 HP2.out
  go_wp2_with fail
  refine (aw_h3 _).mono ?_
  rintro e w3 ⟨rfl, hb⟩
  have HA3 := hideP (kept4 hb HA2.out).1
  have HP3 := hideP (kept4 hb HP2.out).1
  have HB3 : Hid (Below w.heap.size w w3) := HB2.out.trans (hb.mono HB2.out.size)
  clear hb a0 a1 a2 a3 p0 p1 p2 p3
  obtain ⟨a0, a1, a2, a3⟩ := cells4 HA3.out
  obtain ⟨p0, p1, p2, p3⟩ := cells4 HP3.out
  go_wp2_with fail
  refine (aw_h4 _).mono ?_
  rintro e w4 ⟨rfl, hb⟩
  have HA4 := hideP (kept4 hb HA3.out).1
  have HP4 := hideP (kept4 hb HP3.out).1
  have HB4 : Hid (Below w.heap.size w w4) := HB3.out.trans (hb.mono HB3.out.size)
  clear hb a0 a1 a2 a3 p0 p1 p2 p3
  obtain ⟨a0, a1, a2, a3⟩ := cells4 HA4.out
  obtain ⟨p0, p1, p2, p3⟩ := cells4 HP4.out
  go_wp2_with fail
  refine (aw_h5 _).mono ?_
  rintro e w5 ⟨rfl, hb⟩
  have HA5 := hideP (kept4 hb HA4.out).1
  have HP5 := hideP (kept4 hb HP4.out).1
  have HB5 : Hid (Below w.heap.size w w5) := HB4.out.trans (hb.mono HB4.out.size)
  clear hb a0 a1 a2 a3 p0 p1 p2 p3
  obtain ⟨a0, a1, a2, a3⟩ := cells4 HA5.out
  obtain ⟨p0, p1, p2, p3⟩ := cells4 HP5.out
  go_wp2_with fail
  refine (aw_h6 _).mono ?_
  rintro e w6 ⟨rfl, hb⟩
  have HA6 := hideP (kept4 hb HA5.out).1
  have HP6 := hideP (kept4 hb HP5.out).1
  have HB6 : Hid (Below w.heap.size w w6) := HB5.out.trans (hb.mono HB5.out.size)
  clear hb a0 a1 a2 a3 p0 p1 p2 p3
  obtain ⟨a0, a1, a2, a3⟩ := cells4 HA6.out
  obtain ⟨p0, p1, p2, p3⟩ := cells4 HP6.out
  go_wp2_with fail
  refine (aw_h7 _).mono ?_
  rintro e w7 ⟨rfl, hb⟩
  have HA7 := hideP (kept4 hb HA6.out).1
  have HP7 := hideP (kept4 hb HP6.out).1
  have HB7 : Hid (Below w.heap.size w w7) := HB6.out.trans (hb.mono HB6.out.size)
  clear hb a0 a1 a2 a3 p0 p1 p2 p3
  obtain ⟨a0, a1, a2, a3⟩ := cells4 HA7.out
  obtain ⟨p0, p1, p2, p3⟩ := cells4 HP7.out
  go_wp2_with fail
  refine (aw_h8 _).mono ?_
  rintro e w8 ⟨rfl, hb⟩
  have HA8 := hideP (kept4 hb HA7.out).1
  have HP8 := hideP (kept4 hb HP7.out).1
  have HB8 : Hid (Below w.heap.size w w8) := HB7.out.trans (hb.mono HB7.out.size)
  clear hb a0 a1 a2 a3 p0 p1 p2 p3
  go_wp2_with fail
  go_ret
  exact ⟨rfl, HB8.out⟩

end Go.Proofs.Ytpnijncoldihfaa

namespace Go.Proofs.Ytpnijncoldihfaa
open Go.RowKit Go.Shelf

/-- Words are equal just if their numbers are. -/
theorem eq_wv (X Y : Nat) (W : World) : (Op.equalIn 10000 24 (wv X) (wv Y)).run Try.prog W = .ok (decide (X % M256 = Y % M256)) W := by
  obtain ⟨x0, x1, x2, x3, hx0, hx1, hx2, hx3, eX, hX⟩ := wv_limbs X
  obtain ⟨y0, y1, y2, y3, hy0, hy1, hy2, hy3, eY, hY⟩ := wv_limbs Y
  rw [hX, hY, eq_words]
  congr 1
  rw [Bool.eq_iff_iff]
  simp only [Bool.and_eq_true, beq_iff_eq, decide_eq_true_eq]
  constructor
  · rintro ⟨a, b, c, d⟩
    rw [eX, eY, Int.ofNat.inj a, Int.ofNat.inj b, Int.ofNat.inj c, Int.ofNat.inj d]
  · intro h
    rw [eX, eY] at h
    unfold num at h
    omega

end Go.Proofs.Ytpnijncoldihfaa
