/-
  Whether a number may be a modulus; lists and arrays of 6 words; a ring's modulus.
-/
import Derived.Test.YtiekipkmfopdoaaEnds
import Derived.Test.YtiekipkmfopdoaaCel6
import Derived.Test.YtiekipkmfopdoaaRaise6
import Derived.Test.YtiekipkmfopdoaaMeth26
import Derived.Test.YtiekipkmfopdoaaRFld
import Derived.Test.YtiekipkmfopdoaaInv1
namespace Go.Proofs.Ytiekipkmfopdoaa
open Go.RowKit Go.Shelf

/-- A text's sign. -/
def sb (s : ByteArray) (j : Nat) : Nat := (s.data[j]?.getD 0).toNat

theorem sb_lt (s : ByteArray) (j : Nat) : sb s j < 256 := UInt8.toNat_lt _

theorem index_sb (s : ByteArray) (k : Nat) (hk : k < s.size) (W : World) : (Instr.index 9 (.string s) (.int .i64 (k : Int))).run Try.prog W = .ok (.int .u8 (sb s k)) W := by
  have hd : s.data[k]? = some s.data[k] := Array.getElem?_eq_getElem hk
  have h := run_index_string (P := Try.prog) (w := W) 9 s .i64 (k : Int) Try.underlying9
  rw [h]
  unfold sb
  rw [hd]
  have e : ((k : Int)).toNat = k := by omega
  have g : ¬ ((k : Int) < 0 ∨ (s.size : Int) ≤ (k : Int)) := by omega
  simp [e, hk]
  rfl

/-- What a digit's sign stands for. -/
def hxd (c : Nat) : Nat := if 97 ≤ c then c - 97 + 10 else c - 48

/-- The number of the last k signs. -/
def hxv (s : ByteArray) : Nat → Nat
  | 0 => 0
  | k + 1 => hxv s k + hxd (sb s (s.size - 1 - k)) * 16 ^ k

theorem limb_add_digit (V d k j : Nat) (hV : V < 16 ^ k) (hd : d < 16) : limb (V + d * 16 ^ k) j = if j = k / 16 then limb V j + d * 2 ^ (4 * (k % 16)) else limb V j := by
  have e : (16 : Nat) ^ k = 2 ^ (4 * (k % 16)) * 18446744073709551616 ^ (k / 16) := by
    rw [show (18446744073709551616 : Nat) = 2 ^ 64 by decide, ← Nat.pow_mul, ← Nat.pow_add, show (16 : Nat) = 2 ^ 4 by decide, ← Nat.pow_mul]
    congr 1
    omega
  have hlow : V / 18446744073709551616 ^ (k / 16) < 2 ^ (4 * (k % 16)) := by
    rw [Nat.div_lt_iff_lt_mul (Nat.pow_pos (by decide)), ← e]
    exact hV
  have hp : 2 ^ (4 * (k % 16)) ≤ 2 ^ 60 := Nat.pow_le_pow_right (by decide) (by omega)
  unfold limb
  by_cases h : j = k / 16
  · subst h
    rw [if_pos rfl, e, ← Nat.mul_assoc, Nat.add_mul_div_right _ _ (Nat.pow_pos (by decide))]
    have h60 : (2 : Nat) ^ 60 = 1152921504606846976 := by decide
    have hm : d * 2 ^ (4 * (k % 16)) ≤ 15 * 2 ^ (4 * (k % 16)) := Nat.mul_le_mul_right _ (by omega)
    generalize d * 2 ^ (4 * (k % 16)) = D at *
    generalize 2 ^ (4 * (k % 16)) = P at *
    generalize V / 18446744073709551616 ^ (k / 16) = Q at *
    omega
  · rw [if_neg h]
    rcases Nat.lt_or_gt_of_ne h with h1 | h1
    · have hk : k / 16 = (k / 16 - j - 1) + 1 + j := by omega
      have e2 : d * 16 ^ k = d * 2 ^ (4 * (k % 16)) * 18446744073709551616 ^ (k / 16 - j - 1) * 18446744073709551616 * 18446744073709551616 ^ j := by
        rw [e]
        conv => lhs; rw [hk, Nat.pow_add, Nat.pow_succ]
        simp only [Nat.mul_assoc]
      rw [e2, Nat.add_mul_div_right _ _ (Nat.pow_pos (by decide)), Nat.add_mul_mod_self_right]
    · have hz : ∀ N, N < 16 ^ (k + 1) → N / 18446744073709551616 ^ j = 0 := fun N hN => by
        apply Nat.div_eq_of_lt
        refine Nat.lt_of_lt_of_le hN ?_
        rw [show (18446744073709551616 : Nat) = 16 ^ 16 by decide, ← Nat.pow_mul]
        exact Nat.pow_le_pow_right (by decide) (by omega)
      have hN : V + d * 16 ^ k < 16 ^ (k + 1) := by
        rw [Nat.pow_succ]
        have := Nat.mul_le_mul_right (16 ^ k) (show d ≤ 15 by omega)
        omega
      rw [hz _ hN, hz V (Nat.lt_trans hV (Nat.pow_lt_pow_right (by decide) (by omega)))]

/-- All signs are digits to the base 16. -/
def hexText (s : ByteArray) : Prop := ∀ j, j < s.size → (48 ≤ sb s j ∧ sb s j ≤ 57) ∨ (97 ≤ sb s j ∧ sb s j ≤ 102)

theorem hxd_lt {c : Nat} (h : (48 ≤ c ∧ c ≤ 57) ∨ (97 ≤ c ∧ c ≤ 102)) : hxd c < 16 := by
  unfold hxd
  split <;> omega

theorem hxv_lt {s : ByteArray} (hs : hexText s) : ∀ k, k ≤ s.size → hxv s k < 16 ^ k
  | 0, _ => by simp [hxv]
  | k + 1, h => by
    have ih := hxv_lt hs k (by omega)
    have hd := hxd_lt (hs (s.size - 1 - k) (by omega))
    rw [hxv, Nat.pow_succ]
    have := Nat.mul_le_mul_right (16 ^ k) (show hxd (sb s (s.size - 1 - k)) ≤ 15 by omega)
    omega

theorem or_digit (a d n : Nat) (ha : a < 2 ^ n) (hd : d < 16) (hn : n ≤ 60) : bits .or .u64 (a : Int) ((d * 2 ^ n : Nat) : Int) = ((a + d * 2 ^ n : Nat) : Int) := by
  have hp : 2 ^ n ≤ 2 ^ 60 := Nat.pow_le_pow_right (by decide) hn
  have h60 : (2 : Nat) ^ 60 = 1152921504606846976 := by decide
  have hm := Nat.mul_le_mul_right (2 ^ n) (show d ≤ 15 by omega)
  have h := bits_or_u64_nat a (d * 2 ^ n) (by omega) (by omega)
  have e : a ||| d * 2 ^ n = a + d * 2 ^ n := by
    rw [Nat.mul_comm, Nat.or_comm, ← Nat.two_pow_add_eq_or_of_lt ha d, Nat.add_comm]
  rw [h, e]

theorem limb_low_digit {V k : Nat} (hV : V < 16 ^ k) : limb V (k / 16) < 2 ^ (4 * (k % 16)) := by
  unfold limb
  refine Nat.lt_of_le_of_lt (Nat.mod_le _ _) ?_
  rw [Nat.div_lt_iff_lt_mul (Nat.pow_pos (by decide)), show (18446744073709551616 : Nat) = 2 ^ 64 by decide, ← Nat.pow_mul, ← Nat.pow_add]
  refine Nat.lt_of_lt_of_le hV ?_
  rw [show (16 : Nat) = 2 ^ 4 by decide, ← Nat.pow_mul]
  exact Nat.pow_le_pow_right (by decide) (by omega)

end Go.Proofs.Ytiekipkmfopdoaa

namespace Go.Proofs.Ytiekipkmfopdoaa.W6
open Go.RowKit Go.Shelf

theorem infoU' : (Try.prog.info? 23).map (fun i => (i.zero, i.size, i.bytes)) = some (some (.int .u64 0), 1, 8) := by kernel_rfl

theorem make_row' (W : World) : (Instr.makeSlice 27 (.int .i64 (6 : Int)) (.int .i64 (6 : Int))).run Try.prog W = .ok (.slice (some ⟨W.heap.size, 0, none⟩) 6 6) (W.alloc (.cells (cs (fun _ => 0)) 23)) := by
  have hT : Try.prog.underlying 27 = some (.slice 23) := by kernel_rfl
  obtain ⟨i0, hi, hz, hs, hb⟩ := info_parts infoU'
  have := run_makeSlice (P := Try.prog) (w := W) 27 23 i0 (.int .u64 0) hT hi hz .i64 .i64 6 6 (by decide) (by decide) (by rw [hs]; decide) (by rw [hb]; decide) (by decide)
  have e : madeCells (Value.int IntKind.u64 0).cells (Int.toNat 6 * 1) = cs (fun _ => 0) := by kernel_rfl
  rw [this, hs, e]
  rfl

set_option maxHeartbeats 2000000 in
set_option maxRecDepth 100000 in
theorem hex_any (s : ByteArray) (hs : hexText s) (hL : s.size ≤ 16 * 6) (w : World) : Calls Try.prog 69 #[.string s, .int .i64 (6 : Int)] w fun r w' => (∃ g, r = .returned (.slice (some ⟨g, 0, none⟩) 6 6) ∧ w'.heap[g]? = some (.cells (cs (limb (hxv s s.size))) 23 (0, 0))) ∧ Below w.heap.size w w' := by
  have hmk := make_row' w
  have HS := hideP hs
  have HL := hideP hL
  have hidx := hideP (fun k (hk : k < s.size) W => index_sb s k hk W)
  have e0 : IntKind.i64.wrap ((s.size : Int) - 1) = (s.size : Int) - 1 := by rw [IntKind.wrap_i64]; omega
  clear hs hL
  unfold cs at hmk
  go_enter Try.func69, Try.ntmps69
  go_wp2_with fail
  refine at_world (fun W0 hW0 => ?_)
  have hG : W0.heap[w.heap.size]? = some (.cells (cs (fun _ => 0)) 23 (0, 0)) := by
    rw [hW0]
    exact heap_new _ _
  have HBW : Hid (Below w.heap.size w W0) := by
    show Below _ _ _
    rw [hW0]
    repeat first | exact Below.refl _ _ | (refine Below.alloc ?_ (by simp <;> omega) _)
  have HG := hideP hG
  clear hW0 hG hmk
  go_loopw [6] (fun i wr => ∃ k : Nat, k ≤ s.size ∧ i = .int .i64 k ∧ wr.heap[w.heap.size]? = some (.cells (cs (limb (hxv s k))) 23 (0, 0)) ∧ But w.heap.size W0 wr) (fun i _ => s.size - (intOf i).toNat)
  case atStart => exact ⟨0, Nat.zero_le _, rfl, by rw [hxv, cs_congr (g := fun _ => 0) (fun j _ => by simp [limb])]; exact HG.out, But.refl _ _⟩
  case round =>
    obtain ⟨k, hk, rfl, hg, hb⟩ := hrel
    by_cases hlt : k < s.size
    · have hL := HL.out
      have hq : k / 16 < 6 := by omega
      have hV := hxv_lt HS.out k (by omega)
      have hdg := HS.out (s.size - 1 - k) (by omega)
      have hd := hxd_lt hdg
      have cg := blk_cell hg (get _ hq)
      have fr : ∀ o, wr.frozen? ⟨w.heap.size, o, none⟩ = false := fun o => blk_free hg
      have hor := or_digit (limb (hxv s k) (k / 16)) (hxd (sb s (s.size - 1 - k))) (4 * (k % 16)) (limb_low_digit hV) hd (by omega)
      have hN := limb_add_digit (hxv s k) (hxd (sb s (s.size - 1 - k))) k
      have h3 := blk_set (o := k / 16) hg (.int .u64 ((limb (hxv s k) (k / 16) + hxd (sb s (s.size - 1 - k)) * 2 ^ (4 * (k % 16)) : Nat) : Int))
      rw [set _ _ hq, cs_congr (g := limb (hxv s (k + 1))) (fun j _ => by
        rw [hxv, hN j hV hd]
        by_cases h1 : j = k / 16
        · rw [if_pos h1, if_pos h1, h1]
        · rw [if_neg h1, if_neg h1])] at h3
      have H3 := hideP h3
      have HB := hideP hb
      have HKS : Hid (k + 1 ≤ s.size) := hlt
      have hix := hidx.out (s.size - 1 - k) (by omega)
      have hlt' : (k : Int) < s.size := by omega
      have e1 : IntKind.i64.wrap ((s.size : Int) - 1 - (k : Int)) = ((s.size - 1 - k : Nat) : Int) := by rw [IntKind.wrap_i64]; omega
      have e4 : IntKind.i64.wrap ((k : Int) + 1) = (k : Int) + 1 := by rw [IntKind.wrap_i64]; omega
      have d1 : ((k : Int)).tdiv 16 = ((k / 16 : Nat) : Int) := by rw [Int.tdiv_eq_ediv_of_nonneg (by omega)]; omega
      have d1' : IntKind.i64.wrap ((k / 16 : Nat) : Int) = ((k / 16 : Nat) : Int) := by rw [IntKind.wrap_i64]; omega
      have d2 : ((k : Int)).tmod 16 = ((k % 16 : Nat) : Int) := by rw [Int.tmod_eq_emod_of_nonneg (by omega)]; omega
      have d2' : IntKind.i64.wrap ((k % 16 : Nat) : Int) = ((k % 16 : Nat) : Int) := by rw [IntKind.wrap_i64]; omega
      have d3 : IntKind.i64.wrap (4 * ((k % 16 : Nat) : Int)) = ((4 * (k % 16) : Nat) : Int) := by rw [IntKind.wrap_i64]; omega
      have d4 : IntKind.u64.wrap ((4 * (k % 16) : Nat) : Int) = ((4 * (k % 16) : Nat) : Int) := by rw [IntKind.wrap_u64]; omega
      have g1 : ((k / 16 : Nat) : Int) < 6 := by omega
      have g2 : ((4 * (k % 16) : Nat) : Int) < 64 := by omega
      have hp : 2 ^ (4 * (k % 16)) ≤ 2 ^ 60 := Nat.pow_le_pow_right (by decide) (by omega)
      have h60 : (2 : Nat) ^ 60 = 1152921504606846976 := by decide
      have hm := Nat.mul_le_mul_right (2 ^ (4 * (k % 16))) (show hxd (sb s (s.size - 1 - k)) ≤ 15 by omega)
      have hwd : IntKind.u64.wrap ((hxd (sb s (s.size - 1 - k)) : Int) * 2 ^ (4 * (k % 16))) = ((hxd (sb s (s.size - 1 - k)) * 2 ^ (4 * (k % 16)) : Nat) : Int) := by
        have e : ((hxd (sb s (s.size - 1 - k)) : Int) * 2 ^ (4 * (k % 16))) = ((hxd (sb s (s.size - 1 - k)) * 2 ^ (4 * (k % 16)) : Nat) : Int) := by simp
        rw [e, M64.wrapN _ (by omega)]
      have hor2 : bits .or .u64 (limb (hxv s k) (k / 16) : Int) ((hxd (sb s (s.size - 1 - k)) : Int) * 2 ^ (4 * (k % 16))) = ((limb (hxv s k) (k / 16) + hxd (sb s (s.size - 1 - k)) * 2 ^ (4 * (k % 16)) : Nat) : Int) := by
        rw [← hor]
        congr 1
      have HOR := hideP hor2
      clear hor hor2
      have hxe : hxd (sb s (s.size - 1 - k)) = if 97 ≤ sb s (s.size - 1 - k) then sb s (s.size - 1 - k) - 97 + 10 else sb s (s.size - 1 - k) - 48 := rfl
      generalize limb (hxv s k) (k / 16) = lv at *
      generalize hxd (sb s (s.size - 1 - k)) = dg at *
      generalize sb s (s.size - 1 - k) = c at *
      generalize s.size - 1 - k = ix at *
      generalize k / 16 = q at *
      generalize 4 * (k % 16) = sh at *
      generalize k % 16 = r at *
      clear hg hb hk hlt hN hV hL h3 hp h60 hm hd
      rcases hdg with ⟨a1, a2⟩ | ⟨a1, a2⟩
      · have b1 : ¬ (97 : Int) ≤ (c : Int) := by omega
        rw [if_neg (by omega)] at hxe
        have w1 : IntKind.u8.wrap ((c : Int) - 48) = (dg : Int) := by rw [IntKind.wrap_u8]; omega
        have w2 : IntKind.u64.wrap (dg : Int) = (dg : Int) := by rw [IntKind.wrap_u64]; omega
        clear a1 a2 hxe
        go_wp2_with fail
        refine ⟨⟨k + 1, HKS.out, by go_num, ?_, HB.out.set _ _⟩, by have := HKS.out; simp [intOf]; omega⟩
        rw [HOR.out]
        exact H3.out
      · have b1 : (97 : Int) ≤ (c : Int) := by omega
        rw [if_pos (by omega)] at hxe
        have w0 : IntKind.u8.wrap ((c : Int) - 48) = ((c - 48 : Nat) : Int) := by rw [IntKind.wrap_u8]; omega
        have w00 : IntKind.u64.wrap ((c - 48 : Nat) : Int) = ((c - 48 : Nat) : Int) := by rw [IntKind.wrap_u64]; omega
        have w1 : IntKind.u8.wrap ((c : Int) - 97) = ((c - 97 : Nat) : Int) := by rw [IntKind.wrap_u8]; omega
        have w2 : IntKind.u64.wrap ((c - 97 : Nat) : Int) = ((c - 97 : Nat) : Int) := by rw [IntKind.wrap_u64]; omega
        have w3 : IntKind.u64.wrap (((c - 97 : Nat) : Int) + 10) = (dg : Int) := by rw [IntKind.wrap_u64]; omega
        clear a1 a2 hxe
        generalize c - 48 = c48 at *
        generalize c - 97 = c97 at *
        go_wp2_with fail
        refine ⟨⟨k + 1, HKS.out, by go_num, ?_, HB.out.set _ _⟩, by have := HKS.out; simp [intOf]; omega⟩
        rw [HOR.out]
        exact H3.out
    · have hkn : k = s.size := by omega
      have hnl : ¬ (k : Int) < s.size := by omega
      rw [hkn] at hg
      have H3 := hideP hg
      have HB := hideP hb
      clear hg hb hk hlt hkn
      go_wp2
      go_ret
      exact ⟨⟨_, rfl, H3.out⟩, HBW.out.trans HB.out.below⟩

end Go.Proofs.Ytiekipkmfopdoaa.W6

namespace Go.Proofs.Ytiekipkmfopdoaa.W6
open Go.RowKit Go.Shelf

theorem eq_el9 (x y : Int) (W : World) : (Op.equalIn 9999 23 (.int .u64 x) (.int .u64 y)).run Try.prog W = .ok (x == y) W := by
  unfold Op.equalIn
  simp [go_sem]

theorem eq_lits9 (a0 a1 a2 a3 a4 a5 b0 b1 b2 b3 b4 b5 : Int) (W : World) : (Op.equalIn 10000 29 (.agg #[.int .u64 a0, .int .u64 a1, .int .u64 a2, .int .u64 a3, .int .u64 a4, .int .u64 a5]) (.agg #[.int .u64 b0, .int .u64 b1, .int .u64 b2, .int .u64 b3, .int .u64 b4, .int .u64 b5])).run Try.prog W = .ok (a0 == b0 && (a1 == b1 && (a2 == b2 && (a3 == b3 && (a4 == b4 && (a5 == b5)))))) W := by
  unfold Op.equalIn
  simp [go_sem, List.range', eq_el9]
  by_cases h0 : a0 = b0 <;> by_cases h1 : a1 = b1 <;> by_cases h2 : a2 = b2 <;> by_cases h3 : a3 = b3 <;> by_cases h4 : a4 = b4 <;> by_cases h5 : a5 = b5 <;> simp [go_sem, h0, h1, h2, h3, h4, h5]

theorem eq_wv9 {X Y : Nat} (hX : X < R) (hY : Y < R) (W : World) : (Op.equalIn 10000 29 (wv X) (wv Y)).run Try.prog W = .ok (decide (X = Y)) W := by
  refine (eq_lits9 (limb X 0 : Int) (limb X 1 : Int) (limb X 2 : Int) (limb X 3 : Int) (limb X 4 : Int) (limb X 5 : Int) (limb Y 0 : Int) (limb Y 1 : Int) (limb Y 2 : Int) (limb Y 3 : Int) (limb Y 4 : Int) (limb Y 5 : Int) W).trans ?_
  congr 1
  rw [Bool.eq_iff_iff, decide_eq_true_eq]
  simp only [Bool.and_eq_true, beq_iff_eq]
  constructor
  · rintro ⟨h0, h1, h2, h3, h4, h5⟩
    rw [← val_limbs hX, ← val_limbs hY]
    refine val_congr _ (fun j hj => ?_)
    match j, hj with
    | 0, _ => omega
    | 1, _ => omega
    | 2, _ => omega
    | 3, _ => omega
    | 4, _ => omega
    | 5, _ => omega
    | k + 6, h => exact absurd h (by omega)
  · rintro rfl
    exact ⟨rfl, rfl, rfl, rfl, rfl, rfl⟩

theorem eq_same {X : Nat} (hX : X < R) (W : World) : (Op.equalIn 10000 29 (.agg (cs (limb X))) (.agg (cs (limb X)))).run Try.prog W = .ok true W := by
  have := eq_wv9 hX hX W
  rw [decide_eq_true rfl] at this
  exact this

theorem arrayAt_row (g : Nat) (W : World) : (Instr.arrayAt 29 (.slice (some ⟨g, 0, none⟩) 6 6)).run Try.prog W = .ok (.pointer (some ⟨g, 0, none⟩)) W := by
  simp [Instr.arrayAt, run_underlying under]

set_option maxHeartbeats 400000 in
set_option maxRecDepth 100000 in
theorem array_any (f : Nat → Nat) (g : Nat) (w : World) (hg : w.heap[g]? = some (.cells (cs f) 23 (0, 0))) : Calls Try.prog 22 #[.slice (some ⟨g, 0, none⟩) 6 6] w fun r w' => r = .returned (.agg (cs f)) ∧ Below w.heap.size w w' := by
  have HG := hideP hg
  have hlt := lt_of_block hg
  clear hg
  go_enter Try.func22, Try.ntmps22
  refine wp_seqH (fun K0 HK0 => ?_)
  go_wp2_with fail
  refine HK0.out _ _ ?_
  refine at_world (fun W0 hW0 => ?_)
  have hD : W0.heap[w.heap.size]? = some (.cells (cs (fun _ => 0)) 29 (0, 0)) := by
    rw [hW0]
    exact heap_new _ _
  have HBW : Hid (Below w.heap.size w W0) := by
    show Below _ _ _
    rw [hW0]
    exact (Below.refl _ _).alloc (Nat.le_refl _) _
  have hg0 : W0.heap[g]? = some (.cells (cs f) 23 (0, 0)) := by
    rw [hW0]
    exact (heap_old _ _ hlt).trans HG.out
  have har := arrayAt_row g
  clear hW0
  refine wp_seqH (fun K1 HK1 => ?_)
  refine wp_region_list ?_
  refine wpList_plain rfl fun K hK => ?_
  go_simp
  refine hK _ _ ?_
  refine wpList_plain rfl fun K hK => ?_
  go_simp
  refine hK _ _ ?_
  refine wpList_load_mid rfl 29 (.tmp 4) rfl g 0 rfl (cs f).toList _ (rangeOf hg0) under rfl (info _) ?_
  refine endSlotQ HK1.out (fun _ _ h => h) rfl rfl rfl rfl under rfl (info _) (one _) (by have h1 := thereOf hD; rw [cs_size] at h1 ⊢; exact h1) ?_
  intro wS hBut
  exact ⟨rfl, HBW.out.trans hBut.below⟩

end Go.Proofs.Ytiekipkmfopdoaa.W6

namespace Go.Proofs.Ytiekipkmfopdoaa.W6
open Go.RowKit Go.Shelf

theorem sub_mod {X Y m : Nat} (hX : X < m) (hY : Y < m) (hm : m < R) : (X + (m - Y)) % m = if less1 X Y = 1 then (X + R * less1 X Y - Y + m) % R else X + R * less1 X Y - Y := by
  unfold less1
  by_cases h : X < Y
  · simp only [h, if_true]
    rw [Nat.mod_eq_of_lt (by omega), show X + R * 1 - Y + m = X + (m - Y) + R by omega, Nat.add_mod_right, Nat.mod_eq_of_lt (by omega)]
  · simp only [h, if_false]
    rw [show X + (m - Y) = X - Y + m by omega, Nat.add_mod_right, Nat.mod_eq_of_lt (by omega)]
    simp

set_option maxHeartbeats 4000000 in
set_option maxRecDepth 100000 in
theorem subtract_any {p m f o r : Nat} {w : World} (hr : RingAt w p m f o r) (h : MF m f) (X Y : Nat) (hX : X < m) (hY : Y < m) :
    Calls Try.prog 100 #[.pointer (some ⟨p, 0, none⟩), wv X, wv Y] w fun e w' => e = .returned (wv ((X + (m - Y)) % m)) ∧ Below w.heap.size w w' := by
  have hp : p < w.heap.size := hr.lt
  have hm := h.lt
  have HC := hideP (fun w => minus_any X Y (by omega) (by omega) w)
  have HP := hideP (fun w => plus_any (X + R * less1 X Y - Y) m (minus_lt (by omega) (by omega)) hm w)
  rw [sub_mod hX hY hm]
  have hl1 : less1 X Y = 0 ∨ less1 X Y = 1 := by unfold less1; split <;> simp
  have HR := hideP hr
  clear hr h hm hX hY
  generalize X + R * less1 X Y - Y = D at *
  generalize (D + m) % R = E at *
  generalize (D + m) / R = cE at *
  generalize less1 X Y = b at *
  unfold wv at HC HP ⊢
  have HRES : Hid (Value.agg (cs (limb (if b = 1 then E else D))) = if b = 1 then .agg (cs (limb E)) else .agg (cs (limb D))) := by
    show _ = _
    split <;> rfl
  rw [HRES.out]
  rw [show cs (limb X) = #[.int .u64 (limb X 0), .int .u64 (limb X 1), .int .u64 (limb X 2), .int .u64 (limb X 3), .int .u64 (limb X 4), .int .u64 (limb X 5)] from rfl, show cs (limb Y) = #[.int .u64 (limb Y 0), .int .u64 (limb Y 1), .int .u64 (limb Y 2), .int .u64 (limb Y 3), .int .u64 (limb Y 4), .int .u64 (limb Y 5)] from rfl] at HC ⊢
  rw [show cs (limb D) = #[.int .u64 (limb D 0), .int .u64 (limb D 1), .int .u64 (limb D 2), .int .u64 (limb D 3), .int .u64 (limb D 4), .int .u64 (limb D 5)] from rfl] at HC
  clear HRES
  go_enter Try.func100, Try.ntmps100
  go_wp2_with fail
  rename_i Q' KA hKA KB hKB
  have HKA := hideP hKA
  clear hKA
  refine at_world_q (fun W0 hW0 => ?_)
  have hD : W0.heap[w.heap.size + 1 + 1]? = some (.cells (cs (fun _ => 0)) 29 (0, 0)) := by
    rw [hW0]
    exact heap_new2 _ _ _ _
  have HBW : Hid (Below w.heap.size w W0) := by
    show Below _ _ _
    rw [hW0]
    repeat first | exact Below.refl _ _ | (refine Below.alloc ?_ (by simp <;> omega) _)
  clear hW0
  refine (HC.out _).mono ?_
  rintro e w1 ⟨rfl, hb⟩
  have HR1 := hideP (HR.out.belowN hp (HBW.out.trans (hb.mono HBW.out.size)))
  have HD1 := hideP ((hb.block _ (lt_of_block hD)).trans hD)
  have HB1 := hideP (HBW.out.trans (hb.mono HBW.out.size))
  clear hb hD HBW HC HR
  go_wp2_with fail
  refine at_worldK (fun W1 hW1 => ?_)
  have h7 : W1.heap[w1.heap.size]? = some (.cells (cs (limb D)) 29 (0, 0)) := by
    rw [hW1]
    exact heap_new _ _
  have hb1 : Below w1.heap.size w1 W1 := by
    rw [hW1]
    exact (Below.refl _ _).alloc (Nat.le_refl _) _
  have HR2 := hideP (HR1.out.below hb1)
  have HD2 := hideP ((hb1.block _ (lt_of_block HD1.out)).trans HD1.out)
  have HB2 := hideP (HB1.out.trans (hb1.mono HB1.out.size))
  have H7 := hideP h7
  have n7 : p ≠ w1.heap.size := by have := HR1.out.lt; omega
  have nD : w.heap.size + 1 + 1 ≠ w1.heap.size := by have := lt_of_block HD1.out; omega
  have nW : w.heap.size ≤ w1.heap.size := HB1.out.size
  clear hW1 hb1 h7 HR1 HD1 HB1
  generalize w1.heap.size = b7 at *
  refine HKA.out _ _ ?_
  refine wp_seqH (fun K1 HK1 => ?_)
  refine wp_seqH (fun K2 HK2 => ?_)
  rcases hl1 with rfl | rfl
  · go_wp2_with fail
    refine HK2.out _ _ ?_
    refine wp_cond_false rfl (wp_skip ?_)
    refine HK1.out _ _ ?_
    refine endRowQ (fun _ _ h => h) rfl rfl rfl (by decide) (by show 26 < 27; decide) rfl under rfl (info _) (one _) (rangeOf H7.out) (there_cs HD2.out _) ?_
    intro wS hBut
    exact ⟨by rw [if_neg (show ¬ (0 = 1) by decide)], HB2.out.trans (hBut.below.mono (by omega))⟩
  · go_wp2_with fail
    refine HK2.out _ _ ?_
    refine wp_cond_true rfl ?_
    refine wp_region_heldS (S := fun V => KP W1 b7 V) (by kernel_rfl) (KP.init H7.out) (fun hS => ?_)
    refine wpAnyH_takeL (i := 1) (v := ?_) rfl (by kernel_rfl) (by kernel_rfl) (by kernel_rfl) (fun _ _ _ h => h) (Or.inl ⟨by kernel_rfl, ?_⟩) hS ?_
    rotate_left
    · intro V hV
      go_simp
      (try with_reducible rfl)
    simp only [put_list, List.set_cons_succ, List.set_cons_zero]
    refine wpAnyH_takeL (i := 2) (v := ?_) rfl (by kernel_rfl) (by kernel_rfl) (by kernel_rfl) (fun _ _ _ h => h) (Or.inl ⟨by kernel_rfl, ?_⟩) hS ?_
    rotate_left
    · intro V hV
      go_simp
      (try with_reducible rfl)
    simp only [put_list, List.set_cons_succ, List.set_cons_zero]
    refine wpAnyH_takeL (i := 3) (v := ?_) rfl (by kernel_rfl) (by kernel_rfl) (by kernel_rfl) (fun _ _ _ h => h) (Or.inl ⟨by kernel_rfl, ?_⟩) hS ?_
    rotate_left
    · intro V hV
      go_simp
      (try with_reducible rfl)
    simp only [put_list, List.set_cons_succ, List.set_cons_zero]
    refine wpAnyH_takeL (i := 4) (v := .agg (cs (limb m))) rfl (by kernel_rfl) (by kernel_rfl) (by kernel_rfl) (fun _ _ _ h => h) (yieldsIf_load_mid (by kernel_rfl) 29 _ rfl (p) (0) rfl (cs (limb m)).toList _ (fun V hV => (hV.ring HR2.out n7).mod) under rfl (info _)) hS ?_
    simp only [put_list, List.set_cons_succ, List.set_cons_zero]
    refine wpAnyH_ready (rs := [0]) (by kernel_rfl) (by simp) (AllReadyH.cons rfl (fun K hK => ?_) AllReadyH.nil)
    refine ite_wp (by kernel_rfl) ?_
    refine wp_load_midD 29 (.tmp 7) 18 rfl rfl (b7) (0) (cs (limb D)) rfl _ (rangeOf H7.out) under rfl (info _) ?_
    refine hK.out _ _ hS (fun hS => ?_)
    clear hK K
    simp only [List.set_cons_succ, List.set_cons_zero]
    refine wpAnyH_ready (rs := [5]) (by kernel_rfl) (by simp) (AllReadyH.cons rfl (fun K hK => ?_) AllReadyH.nil)
    go_simp
    refine (HP.out _).mono ?_
    rintro e w2 ⟨rfl, hbc⟩
    refine hK.out _ _ (hS.call hbc) (fun hS => ?_)
    clear hK K
    clear hbc
    refine wpAnyH_takeL (i := 6) (v := ?_) rfl (by kernel_rfl) (by kernel_rfl) (by kernel_rfl) (fun _ _ _ h => h) (Or.inl ⟨by kernel_rfl, ?_⟩) hS ?_
    rotate_left
    · intro V hV
      go_simp
      (try with_reducible rfl)
    simp only [put_list, List.set_cons_succ, List.set_cons_zero]
    refine wpAnyH_takeL (i := 7) (v := ?_) rfl (by kernel_rfl) (by kernel_rfl) (by kernel_rfl) (fun _ _ _ h => h) (Or.inl ⟨by kernel_rfl, ?_⟩) hS ?_
    rotate_left
    · intro V hV
      go_simp
      (try with_reducible rfl)
    simp only [put_list, List.set_cons_succ, List.set_cons_zero]
    refine wpAnyH_takeL (i := 8) (v := ?_) rfl (by kernel_rfl) (by kernel_rfl) (by kernel_rfl) (fun _ _ _ h => h) (Or.inl ⟨by kernel_rfl, ?_⟩) hS ?_
    rotate_left
    · intro V hV
      go_simp
      (try with_reducible rfl)
    simp only [put_list, List.set_cons_succ, List.set_cons_zero]
    refine wpAnyH_ready (rs := [9]) (by kernel_rfl) (by simp) (AllReadyH.cons rfl (fun K hK => ?_) AllReadyH.nil)
    refine ite_wp (by kernel_rfl) ?_
    refine wp_store_midN 29 (.tmp 7) (.tmp 24) rfl rfl (b7) 0 (cs (limb E)) rfl rfl (hS.there _) (info _) (one _) ?_
    have g1 := hS.put ((limb E))
    have hS9 := hS.store ((limb E))
    clear hS
    generalize World.setCells _ (b7) 0 (cs (limb E)).toList = w3 at g1 hS9 ⊢
    refine hK.out _ _ hS9 (fun hS => ?_)
    clear hK K hS9
    refine wpAnyH_done (by kernel_rfl) ?_ _
    (try simp only [put_none])
    refine HK1.out _ _ ?_
    refine endRowQ (fun _ _ h => h) rfl rfl rfl (by decide) (by show 26 < 27; decide) rfl under rfl (info _) (one _) (rangeOf g1) (there_cs (hS.box HD2.out nD) _) ?_
    intro wS hBut
    exact ⟨by rw [if_pos rfl], HB2.out.trans ((hS.below.mono nW).trans (hBut.below.mono (by omega)))⟩

end Go.Proofs.Ytiekipkmfopdoaa.W6

namespace Go.Proofs.Ytiekipkmfopdoaa.W6
open Go.RowKit Go.Shelf

theorem add_cancel_le {m P Q c : Nat} (hQ : Q < m) (hle : P ≤ Q) (h : (P + c) % m = (Q + c) % m) : P = Q := by
  have h1 := Nat.sub_mod_eq_zero_of_mod_eq h.symm
  rw [Nat.add_sub_add_right, Nat.mod_eq_of_lt (by omega)] at h1
  omega

theorem add_cancel {m P Q c : Nat} (hP : P < m) (hQ : Q < m) (h : (P + c) % m = (Q + c) % m) : P = Q := by
  rcases Nat.le_total P Q with hle | hle
  · exact add_cancel_le hQ hle h
  · exact (add_cancel_le hP hle h.symm).symm

theorem el_period (m X k : Nat) : el m (X + m * k) = el m X := by
  rw [← el_mod m (X + m * k), Nat.add_mul_mod_self_left, el_mod]

theorem el_sub {m f : Nat} (h : MF m f) (X Y : Nat) : (el m X + (m - el m Y)) % m = el m (X + (m - Y % m)) := by
  have hy := el_lt h Y
  refine add_cancel (c := el m Y) (Nat.mod_lt _ h.pos) (el_lt h _) ?_
  rw [Nat.mod_add_mod, el_add, show el m X + (m - el m Y) + el m Y = el m X + m by omega, Nat.add_mod_right, Nat.mod_eq_of_lt (el_lt h X)]
  have hY := Nat.mod_add_div Y m
  have hl := Nat.mod_lt Y h.pos
  have e : X + (m - Y % m) + Y = X + m * (Y / m + 1) := by
    rw [Nat.mul_add, Nat.mul_one]
    omega
  rw [e, el_period]

theorem sub_el {p m f o r : Nat} {w : World} (hr : RingAt w p m f o r) (h : MF m f) (X Y : Nat) :
    Calls Try.prog 100 #[.pointer (some ⟨p, 0, none⟩), wv (el m X), wv (el m Y)] w fun e w' => e = .returned (wv (el m (X + (m - Y % m)))) ∧ Below w.heap.size w w' := by
  have := subtract_any hr h (el m X) (el m Y) (el_lt h X) (el_lt h Y)
  rw [el_sub h] at this
  exact this

theorem el_zero (m : Nat) : el m 0 = 0 := by unfold el; rw [Nat.zero_mul, Nat.zero_mod]

set_option maxHeartbeats 2000000 in
set_option maxRecDepth 100000 in
theorem subM_any {p m : Nat} {w : World} (hgood : Good w p m) (X Y : Nat) : Calls Try.prog 54 #[.pointer (some ⟨p, 0, none⟩), wv (el m X), wv (el m Y)] w fun e w' => e = .returned (wv (el m (X + (m - Y % m)))) ∧ Below w.heap.size w w' := by

  have hp := hgood.lt
  obtain ⟨f, hMF, hr⟩ := hgood.ex
  have HIS := hideP (fun w (hr : RingAt w p m f (el m 1) (el m R)) => isMade_good hr hMF)
  have HMF := hideP hMF
  have HR := hideP hr
  clear hr hMF hgood
  unfold wv
  unfold cs
  go_enter Try.func54, Try.ntmps54
  refine wp_seqH (fun K0 HK0 => ?_)
  go_wp2_with fail
  refine HK0.out _ _ ?_
  clear HK0 K0
  refine at_world (fun W0 hW0 => ?_)
  have hA : W0.heap[w.heap.size]? = some (.cells (cs (limb (el m X))) 29 (0, 0)) := by
    rw [hW0]
    exact ((heap_old _ _ (by simp <;> omega)).trans ((heap_old _ _ (by simp <;> omega)).trans (heap_new _ _)))
  have hB : W0.heap[w.heap.size + 1]? = some (.cells (cs (limb (el m Y))) 29 (0, 0)) := by
    rw [hW0]
    exact ((heap_old _ _ (by simp <;> omega)).trans (heap_new1 _ _ _))
  have hD : W0.heap[w.heap.size + 1 + 1]? = some (.cells (cs (fun _ => 0)) 29 (0, 0)) := by
    rw [hW0]
    exact heap_new2 _ _ _ _ 
  have HBW : Hid (Below w.heap.size w W0) := by
    show Below _ _ _
    rw [hW0]
    repeat first | exact Below.refl _ _ | (refine Below.alloc ?_ (by simp <;> omega) _)
  clear hW0
  have HR0 := hideP (HR.out.belowN hp HBW.out)
  have HA := hideP hA
  have HB := hideP hB
  have HD := hideP hD
  clear HR hA hB hD
  have nP : p ≠ w.heap.size + 1 + 1 := by omega
  have nA : w.heap.size ≠ w.heap.size + 1 + 1 := by omega
  have nB : w.heap.size + 1 ≠ w.heap.size + 1 + 1 := by omega
  have nR : w.heap.size ≤ w.heap.size + 1 + 1 := by omega
  generalize hRR : w.heap.size + 1 + 1 = R0 at *
  refine wp_seqH (fun K1 HK1 => ?_)
  refine wp_seqH (fun K2 HK2 => ?_)
  go_wp2_with (go_at_call 95; refine (HIS.out _ HR0.out).mono ?_; rintro e w' ⟨rfl, rfl⟩)
  refine HK2.out _ _ ?_
  clear HK2 K2
  refine wp_cond_true rfl ?_
  obtain ⟨qa0, qa1, qa2, qa3, qa4, qa5⟩ := cells HA.out
  obtain ⟨qb0, qb1, qb2, qb3, qb4, qb5⟩ := cells HB.out
  have HC := hideP (sub_el HR0.out HMF.out X Y)
  unfold wv cs at HC
  go_wp2_with fail
  rename_i hKB
  refine HC.out.mono ?_
  rintro e w1 ⟨rfl, hbc⟩
  refine hKB _ _ ?_
  have hS1 := (KP.start HD.out).call hbc
  refine wpList_store_mid rfl 29 (.tmp 6) (.tmp 12) rfl R0 0 (cs (limb (el m (X + (m - Y % m))))) rfl rfl (hS1.there _) (info _) (one _) ?_
  refine wpList_nil ?_
  simp only [put_none]
  have g1 := hS1.put (limb (el m (X + (m - Y % m))))
  have hS := hS1.store (limb (el m (X + (m - Y % m))))
  generalize World.setCells w1 R0 0 (cs (limb (el m (X + (m - Y % m))))).toList = w2 at g1 hS ⊢
  refine HK1.out _ _ ?_
  refine endRowQ (fun _ _ h => h) rfl rfl rfl (by decide) (by show 13 < 14; decide) rfl under rfl (info _) (one _) (rangeOf g1) (there_cs g1 _) ?_
  intro wS hBut
  exact ⟨rfl, HBW.out.trans ((hS.below.mono nR).trans (hBut.below.mono nR))⟩

set_option maxHeartbeats 2000000 in
set_option maxRecDepth 100000 in
theorem neg_any {p m : Nat} {w : World} (hgood : Good w p m) (X : Nat) : Calls Try.prog 55 #[.pointer (some ⟨p, 0, none⟩), wv (el m X)] w fun e w' => e = .returned (wv (el m (m - X % m))) ∧ Below w.heap.size w w' := by

  have hp := hgood.lt
  obtain ⟨f, hMF, hr⟩ := hgood.ex
  have HIS := hideP (fun w (hr : RingAt w p m f (el m 1) (el m R)) => isMade_good hr hMF)
  have HMF := hideP hMF
  have HR := hideP hr
  clear hr hMF hgood
  unfold wv
  unfold cs
  go_enter Try.func55, Try.ntmps55
  refine wp_seqH (fun K0 HK0 => ?_)
  go_wp2_with fail
  refine HK0.out _ _ ?_
  clear HK0 K0
  refine at_world (fun W0 hW0 => ?_)
  have hA : W0.heap[w.heap.size]? = some (.cells (cs (limb (el m X))) 29 (0, 0)) := by
    rw [hW0]
    exact ((heap_old _ _ (by simp <;> omega)).trans (heap_new _ _))
  have hD : W0.heap[w.heap.size + 1]? = some (.cells (cs (fun _ => 0)) 29 (0, 0)) := by
    rw [hW0]
    exact heap_new1 _ _ _ 
  have HBW : Hid (Below w.heap.size w W0) := by
    show Below _ _ _
    rw [hW0]
    repeat first | exact Below.refl _ _ | (refine Below.alloc ?_ (by simp <;> omega) _)
  clear hW0
  have HR0 := hideP (HR.out.belowN hp HBW.out)
  have HA := hideP hA
  have HD := hideP hD
  clear HR hA hD
  have nP : p ≠ w.heap.size + 1 := by omega
  have nA : w.heap.size ≠ w.heap.size + 1 := by omega
  have nR : w.heap.size ≤ w.heap.size + 1 := by omega
  generalize hRR : w.heap.size + 1 = R0 at *
  refine wp_seqH (fun K1 HK1 => ?_)
  refine wp_seqH (fun K2 HK2 => ?_)
  go_wp2_with (go_at_call 95; refine (HIS.out _ HR0.out).mono ?_; rintro e w' ⟨rfl, rfl⟩)
  refine HK2.out _ _ ?_
  clear HK2 K2
  refine wp_cond_true rfl ?_
  refine wp_region_heldS (S := fun V => KP W0 R0 V) (by kernel_rfl) (KP.init HD.out) (fun hS => ?_)
  refine wpAnyH_takeL (i := 0) (v := ?_) rfl (by kernel_rfl) (by kernel_rfl) (by kernel_rfl) (fun _ _ _ h => h) (Or.inl ⟨by kernel_rfl, ?_⟩) hS ?_
  rotate_left
  · intro V hV
    go_simp
    (try with_reducible rfl)
  simp only [put_list, List.set_cons_succ, List.set_cons_zero]
  refine wpAnyH_takeL (i := 2) (v := .agg (cs (limb (el m X)))) rfl (by kernel_rfl) (by kernel_rfl) (by kernel_rfl) (fun _ _ _ h => h) (yieldsIf_load_mid (by kernel_rfl) 29 _ rfl (w.heap.size) (0) rfl (cs (limb (el m X))).toList _ (fun V hV => rangeOf (hV.box HA.out nA)) under rfl (info _)) hS ?_
  simp only [put_list, List.set_cons_succ, List.set_cons_zero]
  have HS1 : Hid (∀ w, Calls Try.prog 90 #[.int .u64 (0 : Int)] w fun e w' => e = .returned (wv 0) ∧ Below w.heap.size w w') := fun w => small_any 0 (by decide) w
  unfold wv at HS1
  refine wpAnyH_ready (rs := [1]) (by kernel_rfl) (by simp) (AllReadyH.cons rfl (fun K hK => ?_) AllReadyH.nil)
  go_simp
  refine (HS1.out _).mono ?_
  rintro e w1 ⟨rfl, hbc⟩
  refine hK.out _ _ (hS.call hbc) (fun hS => ?_)
  clear hK K
  clear hbc
  have HC := hideP (sub_el (hS.ring HR0.out nP) HMF.out 0 X)
  rw [el_zero, Nat.zero_add] at HC
  unfold wv at HC
  refine wpAnyH_ready (rs := [3]) (by kernel_rfl) (by simp) (AllReadyH.cons rfl (fun K hK => ?_) AllReadyH.nil)
  go_simp
  refine HC.out.mono ?_
  rintro e w1 ⟨rfl, hbc⟩
  refine hK.out _ _ (hS.call hbc) (fun hS => ?_)
  clear hK K
  clear hbc
  refine wpAnyH_ready (rs := [4]) (by kernel_rfl) (by simp) (AllReadyH.cons rfl (fun K hK => ?_) AllReadyH.nil)
  refine ite_wp (by kernel_rfl) ?_
  refine wp_store_midN 29 (.tmp 4) (.tmp 10) rfl rfl (R0) 0 (cs (limb (el m (m - X % m)))) rfl rfl (hS.there _) (info _) (one _) ?_
  have g1 := hS.put ((limb (el m (m - X % m))))
  have hS9 := hS.store ((limb (el m (m - X % m))))
  clear hS
  generalize World.setCells _ (R0) 0 (cs (limb (el m (m - X % m)))).toList = w2 at g1 hS9 ⊢
  refine hK.out _ _ hS9 (fun hS => ?_)
  clear hK K hS9
  refine wpAnyH_done (by kernel_rfl) ?_ _
  (try simp only [put_none])
  refine HK1.out _ _ ?_
  refine endRowQ (fun _ _ h => h) rfl rfl rfl (by decide) (by show 11 < 12; decide) rfl under rfl (info _) (one _) (rangeOf g1) (there_cs g1 _) ?_
  intro wS hBut
  exact ⟨rfl, HBW.out.trans ((hS.below.mono nR).trans (hBut.below.mono nR))⟩

end Go.Proofs.Ytiekipkmfopdoaa.W6

namespace Go.Proofs.Ytiekipkmfopdoaa.W6
open Go.RowKit Go.Shelf

theorem eq_el (x y : Int) (W : World) : (Op.equalIn 9999 23 (.int .u64 x) (.int .u64 y)).run Try.prog W = .ok (x == y) W := by
  unfold Op.equalIn
  simp [go_sem]

theorem eq_lits (a0 a1 a2 a3 a4 a5 b0 b1 b2 b3 b4 b5 : Int) (W : World) : (Op.equalIn 10000 29 (.agg #[.int .u64 a0, .int .u64 a1, .int .u64 a2, .int .u64 a3, .int .u64 a4, .int .u64 a5]) (.agg #[.int .u64 b0, .int .u64 b1, .int .u64 b2, .int .u64 b3, .int .u64 b4, .int .u64 b5])).run Try.prog W = .ok (a0 == b0 && (a1 == b1 && (a2 == b2 && (a3 == b3 && (a4 == b4 && (a5 == b5)))))) W := by
  unfold Op.equalIn
  simp [go_sem, List.range', eq_el]
  by_cases h0 : a0 = b0 <;> by_cases h1 : a1 = b1 <;> by_cases h2 : a2 = b2 <;> by_cases h3 : a3 = b3 <;> by_cases h4 : a4 = b4 <;> by_cases h5 : a5 = b5 <;> simp [go_sem, h0, h1, h2, h3, h4, h5]

theorem eq_wv {X Y : Nat} (hX : X < R) (hY : Y < R) (W : World) : (Op.equalIn 10000 29 (wv X) (wv Y)).run Try.prog W = .ok (decide (X = Y)) W := by
  refine (eq_lits (limb X 0 : Int) (limb X 1 : Int) (limb X 2 : Int) (limb X 3 : Int) (limb X 4 : Int) (limb X 5 : Int) (limb Y 0 : Int) (limb Y 1 : Int) (limb Y 2 : Int) (limb Y 3 : Int) (limb Y 4 : Int) (limb Y 5 : Int) W).trans ?_
  congr 1
  rw [Bool.eq_iff_iff, decide_eq_true_eq]
  simp only [Bool.and_eq_true, beq_iff_eq]
  constructor
  · rintro ⟨h0, h1, h2, h3, h4, h5⟩
    rw [← val_limbs hX, ← val_limbs hY]
    refine val_congr _ (fun j hj => ?_)
    match j, hj with
    | 0, _ => omega
    | 1, _ => omega
    | 2, _ => omega
    | 3, _ => omega
    | 4, _ => omega
    | 5, _ => omega
    | k + 6, h => exact absurd h (by omega)
  · rintro rfl
    exact ⟨rfl, rfl, rfl, rfl, rfl, rfl⟩

theorem endPairT {P : Program} {fn : Func} {R : Ending → World → Prop} {K : Act → World → Prop} {a : Act} {w : World} {id L R0 i j k c ty ty1 ty2 ty3 : Nat} {C : Array Value} {v : Value} {d : TypeDesc} {pos1 pos2 pos3 aft1 aft2 aft3} (hf : fn.results = #[.cell j ty, .tmp c]) (hi : a.eval (.tmp i) = .pointer (some ⟨L, 0, none⟩)) (hj : a.eval (.tmp j) = .pointer (some ⟨R0, 0, none⟩)) (hjk : k ≠ j) (hjc : c ≠ j) (hk : k < a.tmps.size) (hcs : c < a.tmps.size) (hd : a.defers = [])
    (hu : P.underlying ty = some d) (hr : d.isRow = true) (hs : (P.info? ty).map (·.size) = some C.size) (h1 : C.all (·.oneCell') = true)
    (hL : w.rangeAt L 0 C.toList) (hR : w.there R0 0 C.size) (h : ∀ wS, But R0 w wS → R (.returned (.tuple #[.agg C, v])) wS) :
    ((Code.region id #[{ dst := some k, op := .load ty (.tmp i), type := ty1, pos := pos1, after := aft1, guard := none }, { dst := none, op := .store ty (.tmp j) (.tmp k), type := ty2, pos := pos2, after := aft2, guard := none }, { dst := some c, op := .assign (.const v), type := ty3, pos := pos3, after := aft3, guard := none }] false).seq .ret).wp P (Exit.then K (bodyPost P fn R)) a w :=
  endPairQ (fun _ _ h => h) hf hi hj hjk hjc hk hcs hd hu hr hs h1 hL hR h

set_option maxRecDepth 100000 in
theorem exec_neq {ev : Operand → Value} {d : Option Nat} {x y : Operand} {A B : Array Value} {b : Bool} {ty' : Nat} {pos aft g} (hx : ev x = .agg A) (hy : ev y = .agg B) (W : World) (h : (Op.equalIn 10000 29 (.agg A) (.agg B)).run Try.prog W = .ok b W) :
    (execOp ev { dst := d, op := Op.binOp BinOp.neq 29 x y 29, type := ty', pos := pos, after := aft, guard := g }).run Try.prog W = .ok (.value (.bool (!b))) W := by
  unfold execOp
  simp only [hx, hy]
  have hg : (eqGuard BinOp.neq 29 x y (.agg A) (.agg B)).run Try.prog W = .ok () W := by
    unfold eqGuard
    simp [go_sem]
  simp [go_sem, hg]
  rw [h]
  rfl

/-- What Root answers. -/
def rootN (m X : Nat) : Nat := if el m (X ^ ((m + 1) / 4) * X ^ ((m + 1) / 4)) = el m X then el m (X ^ ((m + 1) / 4)) else 0
def rootB (m X : Nat) : Bool := decide (el m (X ^ ((m + 1) / 4) * X ^ ((m + 1) / 4)) = el m X)

theorem cs_zero : cs (limb 0) = cs (fun _ => 0) := cs_congr (fun j _ => by simp [limb])

set_option maxHeartbeats 8000000 in
set_option maxRecDepth 100000 in
theorem root_any {p m : Nat} {w : World} (hgood : Good w p m) (X : Nat) : Calls Try.prog 51 #[.pointer (some ⟨p, 0, none⟩), wv (el m X)] w fun r w' => r = .returned (.tuple #[wv (rootN m X), .bool (rootB m X)]) ∧ Below w.heap.size w w' := by
  have hp := hgood.lt
  obtain ⟨f, hMF, hr⟩ := hgood.ex
  have HIS := hideP (fun w (hr : RingAt w p m f (el m 1) (el m R)) => isMade_good hr hMF)
  have HMF := hideP hMF
  have HR := hideP hr
  have HQ := hideP (fun w => quarter_any m hMF.lt hMF.odd w)
  have hmR := hMF.lt
  have HM2 : Hid ((m + 1) / 4 < R) := (by omega : (m + 1) / 4 < R)
  have HEQ : Hid (∀ W, (Op.equalIn 10000 29 (wv (el m (X ^ ((m + 1) / 4) * X ^ ((m + 1) / 4)))) (wv (el m X))).run Try.prog W = .ok (rootB m X) W) := fun W => eq_wv (el_ltR hMF _) (el_ltR hMF _) W
  have HRES : Hid (wv (rootN m X) = if rootB m X = true then wv (el m (X ^ ((m + 1) / 4))) else .agg (cs (fun _ => 0))) := by
    show _ = _
    unfold rootN rootB
    by_cases h : el m (X ^ ((m + 1) / 4) * X ^ ((m + 1) / 4)) = el m X
    · rw [if_pos h, if_pos (by simpa using h)]
    · rw [if_neg h, if_neg (by simpa using h)]
      unfold wv
      rw [cs_zero]
  clear hr hMF hgood hmR
  generalize rootB m X = ok at *
  generalize (wv (rootN m X)) = res at *
  unfold wv at HQ HEQ HRES ⊢
  rw [show cs (limb (el m X)) = #[.int .u64 (limb (el m X) 0), .int .u64 (limb (el m X) 1), .int .u64 (limb (el m X) 2), .int .u64 (limb (el m X) 3), .int .u64 (limb (el m X) 4), .int .u64 (limb (el m X) 5)] from rfl]
  go_enter Try.func51, Try.ntmps51
  refine wp_seqH (fun K0 HK0 => ?_)
  go_wp2_with fail
  refine HK0.out _ _ ?_
  clear HK0 K0
  refine at_world (fun W0 hW0 => ?_)
  have hA : W0.heap[w.heap.size]? = some (.cells (cs (limb (el m X))) 29 (0, 0)) := by
    rw [hW0]
    exact (heap_old _ _ (by simp)).trans (heap_new _ _)
  have hD : W0.heap[w.heap.size + 1]? = some (.cells (cs (fun _ => 0)) 29 (0, 0)) := by
    rw [hW0]
    exact heap_new1 _ _ _
  have HBW : Hid (Below w.heap.size w W0) := by
    show Below _ _ _
    rw [hW0]
    repeat first | exact Below.refl _ _ | (refine Below.alloc ?_ (by simp <;> omega) _)
  clear hW0
  have HR0 := hideP (HR.out.belowN hp HBW.out)
  have HA := hideP hA
  have HD := hideP hD
  clear HR hA hD
  have nR : w.heap.size ≤ w.heap.size + 1 := by omega
  generalize hRR : w.heap.size + 1 = R0 at *
  refine wp_seqH (fun K1 HK1 => ?_)
  refine wp_seqH (fun K2 HK2 => ?_)
  go_wp2_with (go_at_call 95; refine (HIS.out _ HR0.out).mono ?_; rintro e w' ⟨rfl, rfl⟩)
  refine HK2.out _ _ ?_
  clear HK2 K2
  refine wp_cond_false rfl (wp_skip ?_)
  refine HK1.out _ _ ?_
  clear HK1 K1
  refine wp_seqH (fun K3 HK3 => ?_)
  have HREST : Hid (∀ (b1 : Nat) (v : Value) (w5 : World), Below W0.heap.size W0 w5 → W0.heap.size ≤ b1 → w5.heap[b1]? = some (.cells (cs (limb (el m (X ^ ((m + 1) / 4))))) 29 (0, 0)) →
      K3 { tmps := #[.pointer (some ⟨p, 0, none⟩), .agg #[.int .u64 (limb (el m X) 0), .int .u64 (limb (el m X) 1), .int .u64 (limb (el m X) 2), .int .u64 (limb (el m X) 3), .int .u64 (limb (el m X) 4), .int .u64 (limb (el m X) 5)], undef, .pointer (some ⟨w.heap.size, 0, none⟩), .pointer (some ⟨R0, 0, none⟩), .bool false, .pointer (some ⟨b1, 0, none⟩), .pointer (some ⟨p, 0, none⟩), .bool true, .bool false, undef, .pointer (some ⟨p, 0, none⟩), .agg (cs (limb (el m X))), .pointer (some ⟨p, 0, none⟩), .pointer (some ⟨p, 0, none⟩), .pointer (some ⟨p, 0, none⟩), .agg (cs (limb m)), .agg (cs (limb ((m + 1) / 4))), v, .agg (cs (limb (el m (X ^ ((m + 1) / 4))))), undef, undef, undef, undef, undef, undef, undef, undef], defers := [] } w5) := by
    intro b1 v w5 hS l1 g1
    have HRx := hideP (HR0.out.below hS)
    have HAx := hideP ((hS.block _ (lt_of_block HA.out)).trans HA.out)
    have HDx := hideP ((hS.block _ (lt_of_block HD.out)).trans HD.out)
    have HGx := hideP g1
    have HBx := hideP hS
    clear g1 hS l1
    refine HK3.out _ _ ?_
    refine wp_seqH (fun K4 HK4 => ?_)
    refine wp_seqH (fun K5 HK5 => ?_)
    have HC := hideP (mult_el HRx.out.drew HMF.out (X ^ ((m + 1) / 4)) (X ^ ((m + 1) / 4)))
    unfold wv at HC
    refine wp_region_heldS (S := fun V => Below w5.heap.size w5 V) (by kernel_rfl) ((Below.refl _ _).drew) (fun hS => ?_)
    refine wpAnyH_takeL (i := 0) (v := ?_) rfl (by kernel_rfl) (by kernel_rfl) (by kernel_rfl) (fun _ _ _ h => h) (Or.inl ⟨by kernel_rfl, ?_⟩) hS ?_
    rotate_left
    · intro V hV
      go_simp
      (try with_reducible rfl)
    simp only [put_list, List.set_cons_succ, List.set_cons_zero]
    refine wpAnyH_takeL (i := 1) (v := .agg (cs (limb (el m (X ^ ((m + 1) / 4)))))) rfl (by kernel_rfl) (by kernel_rfl) (by kernel_rfl) (fun _ _ _ h => h) (yieldsIf_load_mid (by kernel_rfl) 29 _ rfl (b1) (0) rfl (cs (limb (el m (X ^ ((m + 1) / 4))))).toList _ (fun V hV => rangeOf ((hV.block _ (lt_of_block HGx.out)).trans HGx.out)) under rfl (info _)) hS ?_
    simp only [put_list, List.set_cons_succ, List.set_cons_zero]
    refine wpAnyH_takeL (i := 2) (v := .agg (cs (limb (el m (X ^ ((m + 1) / 4)))))) rfl (by kernel_rfl) (by kernel_rfl) (by kernel_rfl) (fun _ _ _ h => h) (yieldsIf_load_mid (by kernel_rfl) 29 _ rfl (b1) (0) rfl (cs (limb (el m (X ^ ((m + 1) / 4))))).toList _ (fun V hV => rangeOf ((hV.block _ (lt_of_block HGx.out)).trans HGx.out)) under rfl (info _)) hS ?_
    simp only [put_list, List.set_cons_succ, List.set_cons_zero]
    refine wpAnyH_takeL (i := 4) (v := .agg (cs (limb (el m X)))) rfl (by kernel_rfl) (by kernel_rfl) (by kernel_rfl) (fun _ _ _ h => h) (yieldsIf_load_mid (by kernel_rfl) 29 _ rfl (w.heap.size) (0) rfl (cs (limb (el m X))).toList _ (fun V hV => rangeOf ((hV.block _ (lt_of_block HAx.out)).trans HAx.out)) under rfl (info _)) hS ?_
    simp only [put_list, List.set_cons_succ, List.set_cons_zero]
    refine wpAnyH_ready (rs := [3]) (by kernel_rfl) (by simp) (AllReadyH.cons rfl (fun K hK => ?_) AllReadyH.nil)
    go_simp
    refine HC.out.mono ?_
    rintro e w6 ⟨rfl, hbc⟩
    refine hK.out _ _ (hS.trans (hbc.mono hS.size)) (fun hS => ?_)
    clear hK K
    clear hbc
    have heq := HEQ.out
    generalize cs (limb (el m (X ^ ((m + 1) / 4) * X ^ ((m + 1) / 4)))) = CA at heq ⊢
    generalize cs (limb (el m X)) = CB at heq ⊢
    refine wpAnyH_takeL (i := 5) (v := .bool (!ok)) rfl (by kernel_rfl) (by kernel_rfl) (by kernel_rfl) (fun _ _ _ h => h) (Or.inl ⟨by kernel_rfl, ?_⟩) hS ?_
    · intro V hV
      exact exec_neq rfl rfl V (heq V)
    simp only [put_list, List.set_cons_succ, List.set_cons_zero]
    refine wpAnyH_done (by kernel_rfl) ?_ _
    (try simp only [put_none])
    refine HK5.out _ _ ?_
    have HD6 := hideP ((hS.block _ (lt_of_block HDx.out)).trans HDx.out)
    have HG6 := hideP ((hS.block _ (lt_of_block HGx.out)).trans HGx.out)
    have HB6 := hideP (HBW.out.trans ((HBx.out.mono HBW.out.size).trans (hS.mono (Nat.le_trans HBW.out.size HBx.out.size))))
    clear hS heq
    cases ok with
    | true =>
      refine wp_cond_false rfl (wp_skip ?_)
      refine HK4.out _ _ ?_
      refine endPairQ (fun _ _ h => h) rfl rfl rfl (by decide) (by decide) (by show 27 < 28; decide) (by show 5 < 28; decide) rfl under rfl (info _) (one _) (rangeOf HG6.out) (there_cs HD6.out _) ?_
      intro wS hBut
      exact ⟨by rw [HRES.out]; rfl, HB6.out.trans (hBut.below.mono nR)⟩
    | false =>
      refine wp_cond_true rfl ?_
      refine endPairT rfl rfl rfl (by decide) (by decide) (by show 26 < 28; decide) (by show 5 < 28; decide) rfl under rfl (info _) (one _) (rangeOf HD6.out) (there_cs HD6.out _) ?_
      intro wS hBut
      exact ⟨by rw [HRES.out]; rfl, HB6.out.trans (hBut.below.mono nR)⟩
  clear HK3
  refine wp_region_heldS (S := fun V => Below W0.heap.size W0 V) (by kernel_rfl) ((Below.refl _ _).drew) (fun hS => ?_)
  refine wpAnyH_takeL (i := 0) (v := ?_) rfl (by kernel_rfl) (by kernel_rfl) (by kernel_rfl) (fun _ _ _ h => h) (Or.inl ⟨by kernel_rfl, ?_⟩) hS ?_
  rotate_left
  · intro V hV
    go_simp
    (try with_reducible rfl)
  simp only [put_list, List.set_cons_succ, List.set_cons_zero]
  refine wpAnyH_takeL (i := 1) (v := .agg (cs (limb (el m X)))) rfl (by kernel_rfl) (by kernel_rfl) (by kernel_rfl) (fun _ _ _ h => h) (yieldsIf_load_mid (by kernel_rfl) 29 _ rfl (w.heap.size) (0) rfl (cs (limb (el m X))).toList _ (fun V hV => rangeOf ((hV.block _ (lt_of_block HA.out)).trans HA.out)) under rfl (info _)) hS ?_
  simp only [put_list, List.set_cons_succ, List.set_cons_zero]
  refine wpAnyH_takeL (i := 2) (v := ?_) rfl (by kernel_rfl) (by kernel_rfl) (by kernel_rfl) (fun _ _ _ h => h) (Or.inl ⟨by kernel_rfl, ?_⟩) hS ?_
  rotate_left
  · intro V hV
    go_simp
    (try with_reducible rfl)
  simp only [put_list, List.set_cons_succ, List.set_cons_zero]
  refine wpAnyH_takeL (i := 3) (v := ?_) rfl (by kernel_rfl) (by kernel_rfl) (by kernel_rfl) (fun _ _ _ h => h) (Or.inl ⟨by kernel_rfl, ?_⟩) hS ?_
  rotate_left
  · intro V hV
    go_simp
    (try with_reducible rfl)
  simp only [put_list, List.set_cons_succ, List.set_cons_zero]
  refine wpAnyH_takeL (i := 4) (v := ?_) rfl (by kernel_rfl) (by kernel_rfl) (by kernel_rfl) (fun _ _ _ h => h) (Or.inl ⟨by kernel_rfl, ?_⟩) hS ?_
  rotate_left
  · intro V hV
    go_simp
    (try with_reducible rfl)
  simp only [put_list, List.set_cons_succ, List.set_cons_zero]
  refine wpAnyH_takeL (i := 5) (v := .agg (cs (limb m))) rfl (by kernel_rfl) (by kernel_rfl) (by kernel_rfl) (fun _ _ _ h => h) (yieldsIf_load_mid (by kernel_rfl) 29 _ rfl (p) (0) rfl (cs (limb m)).toList _ (fun V hV => (HR0.out.below hV).mod) under rfl (info _)) hS ?_
  simp only [put_list, List.set_cons_succ, List.set_cons_zero]
  refine wpAnyH_ready (rs := [6, 9]) (by kernel_rfl) (by simp) (AllReadyH.cons rfl (fun K hK => ?_) (AllReadyH.cons rfl (fun K hK => ?_) AllReadyH.nil))
  · go_simp
    refine (HQ.out _).mono ?_
    rintro e x1 ⟨rfl, hbc⟩
    refine hK.out _ _ (hS.trans (hbc.mono hS.size)) (fun hS2 => ?_)
    clear hK K hbc hS
    have hS := hS2
    clear hS2
    refine wpAnyH_ready (rs := [7, 9]) (by kernel_rfl) (by simp) (AllReadyH.cons rfl (fun K hK => ?_) (AllReadyH.cons rfl (fun K hK => ?_) AllReadyH.nil))
    · go_simp
      refine (words_any ((m + 1) / 4) _).mono ?_
      rintro e x2 ⟨⟨v, rfl, hU⟩, hbc⟩
      refine hK.out _ _ (hS.trans (hbc.mono hS.size)) (fun hS2 => ?_)
      clear hK K hbc hS
      have hS := hS2
      clear hS2
      refine wpAnyH_ready (rs := [8, 9]) (by kernel_rfl) (by simp) (AllReadyH.cons rfl (fun K hK => ?_) (AllReadyH.cons rfl (fun K hK => ?_) AllReadyH.nil))
      · go_simp
        have HC := hideP (raise_any (HR0.out.below hS) HMF.out X v _ _ hU)
        rw [val_limbs HM2.out] at HC
        unfold wv at HC
        refine (HC.out).mono ?_
        rintro e x3 ⟨rfl, hbc⟩
        clear HC hU
        refine hK.out _ _ (hS.trans (hbc.mono hS.size)) (fun hS2 => ?_)
        clear hK K hbc hS
        have hS := hS2
        clear hS2
        refine wpAnyH_ready (rs := [9]) (by kernel_rfl) (by simp) (AllReadyH.cons rfl (fun K hK => ?_) AllReadyH.nil)
        go_simp
        refine hK.out _ _ (hS.alloc hS.size _) (fun hS2 => ?_)
        clear hK K
        refine at_worldH (fun x4 hw2 => ?_)
        have h1 : x4.heap[x3.heap.size]? = some (.cells (cs (fun _ => 0)) 29 (0, 0)) := by rw [hw2]; exact heap_new _ _
        have l1 : W0.heap.size ≤ x3.heap.size := hS.size
        rw [← hw2] at hS2
        have hbx : Below x3.heap.size x3 x4 := by rw [hw2]; first | exact (Below.refl _ _).alloc (Nat.le_refl _) _ | exact ((Below.refl _ _).alloc (Nat.le_refl _) _).drew
        (try replace hU := hU.below hbx)
        clear hw2 hS hbx
        have hS := hS2
        clear hS2
        refine wpAnyH_ready (rs := [10]) (by kernel_rfl) (by simp) (AllReadyH.cons rfl (fun K hK => ?_) AllReadyH.nil)
        refine ite_wp (by kernel_rfl) ?_
        refine wp_store_midN 29 (.tmp 6) (.tmp 19) rfl rfl (x3.heap.size) 0 (cs (limb (el m (X ^ ((m + 1) / 4))))) rfl rfl (there_cs h1 _) (info _) (one _) ?_
        have g1 := blk_sets (cs (limb (el m (X ^ ((m + 1) / 4))))).toList 0 h1
        rw [putAll_cs] at g1
        have hB1 := But.sets (cs (limb (el m (X ^ ((m + 1) / 4))))).toList 0 (But.refl (x3.heap.size) x4)
        have hSB := hS.trans (hB1.below.mono l1)
        clear h1 hB1
        generalize x4.setCells (x3.heap.size) 0 (cs (limb (el m (X ^ ((m + 1) / 4))))).toList = w5 at g1 hSB ⊢
        refine hK.out _ _ hSB (fun hS => ?_)
        clear hK K hSB
        refine wpAnyH_done (by kernel_rfl) ?_ _
        (try simp only [put_none])
        exact HREST.out _ _ _ hS l1 g1
      · go_simp
        refine hK.out _ _ (hS.alloc hS.size _) (fun hS2 => ?_)
        clear hK K
        refine at_worldH (fun x5 hw2 => ?_)
        have h1 : x5.heap[x2.heap.size]? = some (.cells (cs (fun _ => 0)) 29 (0, 0)) := by rw [hw2]; exact heap_new _ _
        have l1 : W0.heap.size ≤ x2.heap.size := hS.size
        rw [← hw2] at hS2
        have hbx : Below x2.heap.size x2 x5 := by rw [hw2]; first | exact (Below.refl _ _).alloc (Nat.le_refl _) _ | exact ((Below.refl _ _).alloc (Nat.le_refl _) _).drew
        (try replace hU := hU.below hbx)
        clear hw2 hS hbx
        have hS := hS2
        clear hS2
        refine wpAnyH_ready (rs := [8]) (by kernel_rfl) (by simp) (AllReadyH.cons rfl (fun K hK => ?_) AllReadyH.nil)
        go_simp
        have HC := hideP (raise_any (HR0.out.below hS) HMF.out X v _ _ hU)
        rw [val_limbs HM2.out] at HC
        unfold wv at HC
        refine (HC.out).mono ?_
        rintro e x6 ⟨rfl, hbc⟩
        have h2 := (hbc.block _ (lt_of_block h1)).trans h1
        clear HC hU
        refine hK.out _ _ (hS.trans (hbc.mono hS.size)) (fun hS2 => ?_)
        clear hK K hbc hS
        have hS := hS2
        clear hS2
        clear h1
        have h1 := h2
        clear h2
        refine wpAnyH_ready (rs := [10]) (by kernel_rfl) (by simp) (AllReadyH.cons rfl (fun K hK => ?_) AllReadyH.nil)
        refine ite_wp (by kernel_rfl) ?_
        refine wp_store_midN 29 (.tmp 6) (.tmp 19) rfl rfl (x2.heap.size) 0 (cs (limb (el m (X ^ ((m + 1) / 4))))) rfl rfl (there_cs h1 _) (info _) (one _) ?_
        have g1 := blk_sets (cs (limb (el m (X ^ ((m + 1) / 4))))).toList 0 h1
        rw [putAll_cs] at g1
        have hB1 := But.sets (cs (limb (el m (X ^ ((m + 1) / 4))))).toList 0 (But.refl (x2.heap.size) x6)
        have hSB := hS.trans (hB1.below.mono l1)
        clear h1 hB1
        generalize x6.setCells (x2.heap.size) 0 (cs (limb (el m (X ^ ((m + 1) / 4))))).toList = w5 at g1 hSB ⊢
        refine hK.out _ _ hSB (fun hS => ?_)
        clear hK K hSB
        refine wpAnyH_done (by kernel_rfl) ?_ _
        (try simp only [put_none])
        exact HREST.out _ _ _ hS l1 g1
    · go_simp
      refine hK.out _ _ (hS.alloc hS.size _) (fun hS2 => ?_)
      clear hK K
      refine at_worldH (fun x7 hw2 => ?_)
      have h1 : x7.heap[x1.heap.size]? = some (.cells (cs (fun _ => 0)) 29 (0, 0)) := by rw [hw2]; exact heap_new _ _
      have l1 : W0.heap.size ≤ x1.heap.size := hS.size
      rw [← hw2] at hS2
      have hbx : Below x1.heap.size x1 x7 := by rw [hw2]; first | exact (Below.refl _ _).alloc (Nat.le_refl _) _ | exact ((Below.refl _ _).alloc (Nat.le_refl _) _).drew
      (try replace hU := hU.below hbx)
      clear hw2 hS hbx
      have hS := hS2
      clear hS2
      refine wpAnyH_ready (rs := [7]) (by kernel_rfl) (by simp) (AllReadyH.cons rfl (fun K hK => ?_) AllReadyH.nil)
      go_simp
      refine (words_any ((m + 1) / 4) _).mono ?_
      rintro e x8 ⟨⟨v, rfl, hU⟩, hbc⟩
      have h2 := (hbc.block _ (lt_of_block h1)).trans h1
      refine hK.out _ _ (hS.trans (hbc.mono hS.size)) (fun hS2 => ?_)
      clear hK K hbc hS
      have hS := hS2
      clear hS2
      clear h1
      have h1 := h2
      clear h2
      refine wpAnyH_ready (rs := [8]) (by kernel_rfl) (by simp) (AllReadyH.cons rfl (fun K hK => ?_) AllReadyH.nil)
      go_simp
      have HC := hideP (raise_any (HR0.out.below hS) HMF.out X v _ _ hU)
      rw [val_limbs HM2.out] at HC
      unfold wv at HC
      refine (HC.out).mono ?_
      rintro e x9 ⟨rfl, hbc⟩
      have h2 := (hbc.block _ (lt_of_block h1)).trans h1
      clear HC hU
      refine hK.out _ _ (hS.trans (hbc.mono hS.size)) (fun hS2 => ?_)
      clear hK K hbc hS
      have hS := hS2
      clear hS2
      clear h1
      have h1 := h2
      clear h2
      refine wpAnyH_ready (rs := [10]) (by kernel_rfl) (by simp) (AllReadyH.cons rfl (fun K hK => ?_) AllReadyH.nil)
      refine ite_wp (by kernel_rfl) ?_
      refine wp_store_midN 29 (.tmp 6) (.tmp 19) rfl rfl (x1.heap.size) 0 (cs (limb (el m (X ^ ((m + 1) / 4))))) rfl rfl (there_cs h1 _) (info _) (one _) ?_
      have g1 := blk_sets (cs (limb (el m (X ^ ((m + 1) / 4))))).toList 0 h1
      rw [putAll_cs] at g1
      have hB1 := But.sets (cs (limb (el m (X ^ ((m + 1) / 4))))).toList 0 (But.refl (x1.heap.size) x9)
      have hSB := hS.trans (hB1.below.mono l1)
      clear h1 hB1
      generalize x9.setCells (x1.heap.size) 0 (cs (limb (el m (X ^ ((m + 1) / 4))))).toList = w5 at g1 hSB ⊢
      refine hK.out _ _ hSB (fun hS => ?_)
      clear hK K hSB
      refine wpAnyH_done (by kernel_rfl) ?_ _
      (try simp only [put_none])
      exact HREST.out _ _ _ hS l1 g1
  · go_simp
    refine hK.out _ _ (hS.alloc hS.size _) (fun hS2 => ?_)
    clear hK K
    refine at_worldH (fun x10 hw2 => ?_)
    have h1 : x10.heap[W0.heap.size]? = some (.cells (cs (fun _ => 0)) 29 (0, 0)) := by rw [hw2]; exact heap_new _ _
    have l1 : W0.heap.size ≤ W0.heap.size := hS.size
    rw [← hw2] at hS2
    have hbx : Below W0.heap.size W0 x10 := by rw [hw2]; first | exact (Below.refl _ _).alloc (Nat.le_refl _) _ | exact ((Below.refl _ _).alloc (Nat.le_refl _) _).drew
    (try replace hU := hU.below hbx)
    clear hw2 hS hbx
    have hS := hS2
    clear hS2
    refine wpAnyH_ready (rs := [6]) (by kernel_rfl) (by simp) (AllReadyH.cons rfl (fun K hK => ?_) AllReadyH.nil)
    go_simp
    refine (HQ.out _).mono ?_
    rintro e x11 ⟨rfl, hbc⟩
    have h2 := (hbc.block _ (lt_of_block h1)).trans h1
    refine hK.out _ _ (hS.trans (hbc.mono hS.size)) (fun hS2 => ?_)
    clear hK K hbc hS
    have hS := hS2
    clear hS2
    clear h1
    have h1 := h2
    clear h2
    refine wpAnyH_ready (rs := [7]) (by kernel_rfl) (by simp) (AllReadyH.cons rfl (fun K hK => ?_) AllReadyH.nil)
    go_simp
    refine (words_any ((m + 1) / 4) _).mono ?_
    rintro e x12 ⟨⟨v, rfl, hU⟩, hbc⟩
    have h2 := (hbc.block _ (lt_of_block h1)).trans h1
    refine hK.out _ _ (hS.trans (hbc.mono hS.size)) (fun hS2 => ?_)
    clear hK K hbc hS
    have hS := hS2
    clear hS2
    clear h1
    have h1 := h2
    clear h2
    refine wpAnyH_ready (rs := [8]) (by kernel_rfl) (by simp) (AllReadyH.cons rfl (fun K hK => ?_) AllReadyH.nil)
    go_simp
    have HC := hideP (raise_any (HR0.out.below hS) HMF.out X v _ _ hU)
    rw [val_limbs HM2.out] at HC
    unfold wv at HC
    refine (HC.out).mono ?_
    rintro e x13 ⟨rfl, hbc⟩
    have h2 := (hbc.block _ (lt_of_block h1)).trans h1
    clear HC hU
    refine hK.out _ _ (hS.trans (hbc.mono hS.size)) (fun hS2 => ?_)
    clear hK K hbc hS
    have hS := hS2
    clear hS2
    clear h1
    have h1 := h2
    clear h2
    refine wpAnyH_ready (rs := [10]) (by kernel_rfl) (by simp) (AllReadyH.cons rfl (fun K hK => ?_) AllReadyH.nil)
    refine ite_wp (by kernel_rfl) ?_
    refine wp_store_midN 29 (.tmp 6) (.tmp 19) rfl rfl (W0.heap.size) 0 (cs (limb (el m (X ^ ((m + 1) / 4))))) rfl rfl (there_cs h1 _) (info _) (one _) ?_
    have g1 := blk_sets (cs (limb (el m (X ^ ((m + 1) / 4))))).toList 0 h1
    rw [putAll_cs] at g1
    have hB1 := But.sets (cs (limb (el m (X ^ ((m + 1) / 4))))).toList 0 (But.refl (W0.heap.size) x13)
    have hSB := hS.trans (hB1.below.mono l1)
    clear h1 hB1
    generalize x13.setCells (W0.heap.size) 0 (cs (limb (el m (X ^ ((m + 1) / 4))))).toList = w5 at g1 hSB ⊢
    refine hK.out _ _ hSB (fun hS => ?_)
    clear hK K hSB
    refine wpAnyH_done (by kernel_rfl) ?_ _
    (try simp only [put_none])
    exact HREST.out _ _ _ hS l1 g1

end Go.Proofs.Ytiekipkmfopdoaa.W6

namespace Go.Proofs.Ytiekipkmfopdoaa
open Go.RowKit Go.Shelf

theorem fill_of {a x : Nat} (hx : x < 18446744073709551616) (h : a * x % 18446744073709551616 = 1) : ∃ f : Nat, f < 18446744073709551616 ∧ IntKind.u64.wrap (-(x : Int)) = (f : Int) ∧ (a * f + 1) % 18446744073709551616 = 0 := by
  have h0 : 0 < x := by
    rcases Nat.eq_zero_or_pos x with rfl | h1
    · simp at h
    · exact h1
  refine ⟨18446744073709551616 - x, by omega, by rw [IntKind.wrap_u64]; omega, ?_⟩
  have e : a * (18446744073709551616 - x) + a * x = a * 18446744073709551616 := by
    rw [← Nat.mul_add]; congr 1; omega
  generalize a * (18446744073709551616 - x) = A at *
  generalize a * x = C at *
  omega

theorem limb_pow (k j : Nat) : limb (18446744073709551616 ^ k) j = if j = k then 1 else 0 := by
  unfold limb
  rcases Nat.lt_trichotomy j k with h | h | h
  · rw [if_neg (by omega)]
    obtain ⟨d, rfl⟩ : ∃ d, k = d + 1 + j := ⟨k - j - 1, by omega⟩
    rw [Nat.pow_add, Nat.mul_div_cancel _ (Nat.pow_pos (by decide)), Nat.pow_succ, Nat.mul_mod_left]
  · subst h
    rw [if_pos rfl, Nat.div_self (Nat.pow_pos (by decide))]
  · rw [if_neg (by omega), Nat.div_eq_of_lt (Nat.pow_lt_pow_right (by decide) h), Nat.zero_mod]

/-- A list of words is no Field. -/
theorem LW.other {w w' : World} {v x : Value} {n D a b c d t : Nat} {ao co : Option Addr} {f : Nat → Nat} (h : LW w v n f) (hn : 2 ≤ n) (hD : w.heap[D]? = some (.cells #[.slice ao a b, x, .slice co c d] t (0, 0))) (hB : But D w w') : LW w' v n f := by
  obtain ⟨g, o, k, e, h1, h2, hg, hc⟩ := h.ex
  have hne : g ≠ D := by
    intro e2
    subst e2
    have c0 := hc 0 (by omega)
    have c1 := hc 1 (by omega)
    simp only [World.cell?, hD] at c0 c1
    rcases (show o = 0 ∨ o = 1 ∨ o = 2 ∨ 3 ≤ o by omega) with rfl | rfl | rfl | h3
    · simp at c0
    · simp at c1
    · simp at c0
    · have h4 : (#[Value.slice ao a b, x, Value.slice co c d] : Array Value)[o]? = none := by
        rw [Array.getElem?_eq_none]
        simp
        omega
      rw [Nat.add_zero] at c0
      rw [h4] at c0
      cases c0
  exact ⟨g, o, k, e, h1, h2, Nat.lt_of_lt_of_le hg hB.below.size, fun j hj => (hB.cell hne).trans (hc j hj)⟩

set_option maxHeartbeats 4000000 in
set_option maxRecDepth 100000 in
theorem rnew_any {n M : Nat} (hn2 : 2 ≤ n) (hM : FM n M) (w : World) (m : Value) (hm : LW w m n (limb M)) :
    Calls Try.prog 29 #[m] w fun r w' => (∃ (fo : Nat) (tv : Value), r = .returned (.agg #[m, .int .u64 fo, tv]) ∧ LW w' tv n (limb (18446744073709551616 ^ n * 18446744073709551616 ^ n % M)) ∧ (M % 18446744073709551616 * fo + 1) % 18446744073709551616 = 0) ∧ Below w.heap.size w w' := by
  have HH := hideP hM
  have HN2 := hideP hn2
  clear hn2
  have HM := hideP hm
  obtain ⟨g2, o2, c2, rfl, _, _, l2, h2⟩ := hm.ex
  have H2 := hideP h2
  clear hM hm h2
  go_enter Try.func29, Try.ntmps29
  refine wp_seqH (fun K0 HK0 => ?_)
  go_wp2_with fail
  refine HK0.out _ _ ?_
  refine wp_seqH (fun K1 HK1 => ?_)
  go_wp2_with fail
  refine HK1.out _ _ ?_
  refine at_world (fun W0 hW0 => ?_)
  have hR : W0.heap[w.heap.size]? = some (.cells #[.slice none 0 0, .int .u64 0, .slice none 0 0] 38 (0, 0)) := by
    rw [hW0]
    first | exact (heap_old _ _ (by simp)).trans (heap_new _ _) | (simp [World.alloc, World.setCell])
  have hF : W0.heap[w.heap.size + 1]? = some (.cells #[.slice (some ⟨g2, o2, none⟩) n c2, .int .u64 0, .slice none 0 0] 38 (0, 0)) := by
    rw [hW0]
    first | exact heap_new1 _ _ _ | (simp [World.alloc, World.setCell])
  have HBW : Hid (Below w.heap.size w W0) := by
    show Below _ _ _
    rw [hW0]
    repeat first | exact Below.refl _ _ | (refine Below.alloc ?_ (by simp <;> omega) _) | (refine Below.setCell ?_ (by simp <;> omega) _)
  have HR := hideP hR
  have HF := hideP hF
  have ca : W0.cell? ⟨g2, o2, none⟩ = some (.int .u64 (limb M 0)) := by
    have := H2.out 0 HH.out.n0
    rw [Nat.add_zero] at this
    exact (HBW.out.cell (p := ⟨g2, o2, none⟩) l2).trans this
  have HM0 := hideP (HM.out.moved HBW.out)
  have g0 : (0 : Int) < (n : Int) := by have := HH.out.n0; omega
  have hl0 : limb M 0 = M % 18446744073709551616 := by simp [limb]
  have hod : limb M 0 % 2 = 1 := by rw [hl0]; have := HH.out.odd; omega
  have HOD := hideP hod
  clear hW0 hR hF hod
  generalize hm0 : limb M 0 = m0 at ca HOD
  refine wp_seqH (fun K2 HK2 => ?_)
  go_wp2_with fail
  refine HK2.out _ _ ?_
  refine wp_seqH (fun K3 HK3 => ?_)
  go_wp2_with fail
  go_loopw [4, 5] (fun v i wr => wr = W0 ∧ ∃ k x : Nat, k ≤ 6 ∧ i = .int .i64 k ∧ v = .int .u64 x ∧ x < 18446744073709551616 ∧ (1 - (m0 : Int) * (x : Int)) % 18446744073709551616 = ((1 - (m0 : Int)) ^ (2 ^ k)) % 18446744073709551616) (fun _ i _ => 6 - (intOf i).toNat)
  case atStart => exact ⟨rfl, 0, 1, by omega, rfl, rfl, by decide, by rw [show 2 ^ 0 = 1 from rfl, Int.pow_succ, Int.pow_zero]; simp⟩
  case round =>
    obtain ⟨rfl, k, x, hk, rfl, rfl, hx, hd⟩ := hrel
    by_cases hlt : k < 6
    · obtain ⟨y, hy, e1, e2⟩ := inv_wrap m0 x _ hd
      rw [← Int.pow_add, ← Nat.two_mul, Nat.mul_comm 2, ← Nat.pow_succ] at e2
      have HY : Hid (y < 18446744073709551616 ∧ (1 - (m0 : Int) * (y : Int)) % 18446744073709551616 = ((1 - (m0 : Int)) ^ (2 ^ (k + 1))) % 18446744073709551616) := ⟨hy, e2⟩
      have hlt' : (k : Int) < 6 := by omega
      have e4 : IntKind.i64.wrap ((k : Int) + 1) = (k : Int) + 1 := by rw [IntKind.wrap_i64]; omega
      have HKS : Hid (k + 1 ≤ 6) := hlt
      clear hk hlt hx hd hy e2 hl0 hm0
      go_wp2_with fail
      exact ⟨⟨trivial, k + 1, y, HKS.out, by go_num, rfl, HY.out.1, HY.out.2⟩, by have := HKS.out; simp [intOf]; omega⟩
    · have hkn : k = 6 := by omega
      have hnl : ¬ (k : Int) < 6 := by omega
      rw [hkn, inv_zero m0 HOD.out] at hd
      obtain ⟨f, hf1, hf2, hf3⟩ := fill_of hx (inv_fin m0 x hd)
      have HFO : Hid ((M % 18446744073709551616 * f + 1) % 18446744073709551616 = 0) := by
        show _ = _
        rw [← hl0, hm0]
        exact hf3
      clear hk hlt hx hd hkn hf1 hf3 hl0 hm0 HOD ca
      go_wp2_with fail
      refine HK3.out _ _ ?_
      have fr : ∀ o, wr.frozen? ⟨w.heap.size + 1, o, none⟩ = false := fun o => blk_free HF.out
      have cz := blk_cell (o := 1) HF.out rfl
      refine wp_seqH (fun K4 HK4 => ?_)
      go_wp2_with fail
      refine HK4.out _ _ ?_
      have hF1 := blk_set (o := 1) HF.out (.int .u64 (f : Int))
      have hB1 := (But.refl (w.heap.size + 1) wr).set 1 (.int .u64 (f : Int))
      refine at_world (fun W1 hW1 => ?_)
      rw [← hW1] at hF1 hB1
      have HF1 : Hid (W1.heap[w.heap.size + 1]? = some (.cells #[.slice (some ⟨g2, o2, none⟩) n c2, .int .u64 (f : Int), .slice none 0 0] 38 (0, 0))) := hF1
      have HR1 := hideP ((hB1.same _ (show w.heap.size ≠ w.heap.size + 1 by omega)).trans HR.out)
      have HBW1 := hideP (HBW.out.trans (hB1.below.mono (by omega)))
      have HM1 := hideP (HM.out.moved HBW1.out)
      clear hW1 hF1 hB1 fr cz HF HR hf2 HBW
      obtain ⟨N, hN⟩ : ∃ N, N = n + n + 1 := ⟨_, rfl⟩
      obtain ⟨NN, hNN⟩ : ∃ NN, NN = n + n := ⟨_, rfl⟩
      have hn := HH.out.n8
      have hmk := make_words W1 N (by omega)
      have e1 : IntKind.i64.wrap (2 * (n : Int)) = (NN : Int) := by rw [IntKind.wrap_i64]; omega
      have e2 : IntKind.i64.wrap ((NN : Int) + 1) = (N : Int) := by rw [IntKind.wrap_i64]; omega
      have gNN : (NN : Int) < N := by omega
      have HNx : Hid (N = n + n + 1 ∧ NN = n + n ∧ n ≤ 8) := ⟨hN, hNN, hn⟩
      clear hN hNN hn
      refine wp_seqH (fun K5 HK5 => ?_)
      go_wp2_with fail
      refine HK5.out _ _ ?_
      refine at_world (fun W2 hW2 => ?_)
      have hD : W2.heap[W1.heap.size]? = some (.cells (cw N (fun _ => 0)) 23 (0, 0)) := by
        rw [hW2]
        exact heap_new _ _
      have hB2 : Below W1.heap.size W1 W2 := by
        rw [hW2]
        exact (Below.refl _ _).alloc (Nat.le_refl _) _
      obtain ⟨hN, hNN, hn⟩ := HNx.out
      have cz := blk_cell (o := NN) hD (cw_get _ (by omega))
      have fr : ∀ o, W2.frozen? ⟨W1.heap.size, o, none⟩ = false := fun o => blk_free hD
      have hD3 := blk_set (o := NN) hD (.int .u64 ((1 : Nat) : Int))
      rw [cw_set, cw_congr (g := limb (18446744073709551616 ^ n * 18446744073709551616 ^ n)) (fun j _ => by rw [← Nat.pow_add, limb_pow, ← hNN])] at hD3
      have hB3 := (But.refl W1.heap.size W2).set NN (.int .u64 ((1 : Nat) : Int))
      clear hW2 hmk hN hNN hn
      refine wp_seqH (fun K6 HK6 => ?_)
      go_wp2_with fail
      refine HK6.out _ _ ?_
      refine at_world (fun W3 hW3 => ?_)
      simp only [Int.natCast_one] at hD3 hB3
      obtain ⟨hN, hNN, hn⟩ := HNx.out
      rw [← hW3] at hD3 hB3
      have hB13 := hB2.trans hB3.below
      have HF3 := hideP ((hB13.block _ (lt_of_block HF1.out)).trans HF1.out)
      have HR3 := hideP ((hB13.block _ (lt_of_block HR1.out)).trans HR1.out)
      have HBW3 := hideP (HBW1.out.trans (hB13.mono HBW1.out.size))
      have C := hideP (rmod_any (na := N) (n := n) (by omega) hn (18446744073709551616 ^ n * 18446744073709551616 ^ n) M (by rw [← Nat.pow_add, ← hNN]; exact Nat.pow_lt_pow_right (by decide) (by omega)) HH.out.pos HH.out.lt W3 _ _ (row_LW (by omega) hD3) (HM1.out.moved hB13))
      clear hW3 hD3 hB3 hB13 hB2 cz fr hD HF1 HR1 HBW1 HM1 e1 e2 gNN hn hN hNN
      refine wp_seqH (fun K7 HK7 => ?_)
      go_wp2_with fail
      refine C.out.mono ?_
      rintro r W4 ⟨⟨tv, rfl, hL⟩, hb⟩
      have HF4 := hideP ((hb.block _ (lt_of_block HF3.out)).trans HF3.out)
      have HR4 := hideP ((hb.block _ (lt_of_block HR3.out)).trans HR3.out)
      have HBW4 := hideP (HBW3.out.trans (hb.mono HBW3.out.size))
      have HL := hideP hL
      obtain ⟨g5, o5, c5, rfl, -, -, -, -⟩ := hL.ex
      have fr : ∀ o, W4.frozen? ⟨w.heap.size + 1, o, none⟩ = false := fun o => blk_free HF4.out
      have cz := blk_cell (o := 2) HF4.out rfl
      clear hb HF3 HR3 HBW3 C
      go_wp2_with fail
      refine HK7.out _ _ ?_
      have hF5 := blk_set (o := 2) HF4.out (.slice (some ⟨g5, o5, none⟩) n c5)
      have hB5 := (But.refl (w.heap.size + 1) W4).set 2 (.slice (some ⟨g5, o5, none⟩) n c5)
      refine at_world (fun W5 hW5 => ?_)
      rw [← hW5] at hF5 hB5
      have hR5 := (hB5.same _ (show w.heap.size ≠ w.heap.size + 1 by omega)).trans HR4.out
      have HL5 : Hid (LW W5 (.slice (some ⟨g5, o5, none⟩) n c5) n (limb (18446744073709551616 ^ n * 18446744073709551616 ^ n % M))) := HL.out.other HN2.out HF4.out hB5
      have HB5 := hideP (HBW4.out.trans (hB5.below.mono (by omega)))
      have q0 := blk_cell (o := 0) hF5 rfl
      have q1 := blk_cell (o := 1) hF5 rfl
      have q2 := blk_cell (o := 2) hF5 rfl
      have r0 := blk_cell (o := 0) hR5 rfl
      have r1 := blk_cell (o := 1) hR5 rfl
      have r2 := blk_cell (o := 2) hR5 rfl
      have fr5 : ∀ o, W5.frozen? ⟨w.heap.size, o, none⟩ = false := fun o => blk_free hR5
      have hB6 := (((But.refl w.heap.size W5).set 0 (.slice (some ⟨g2, o2, none⟩) n c2)).set 1 (.int .u64 (f : Int))).set 2 (.slice (some ⟨g5, o5, none⟩) n c5)
      have hR6 := blk_set (o := 2) (blk_set (o := 1) (blk_set (o := 0) hR5 (.slice (some ⟨g2, o2, none⟩) n c2)) (.int .u64 (f : Int))) (.slice (some ⟨g5, o5, none⟩) n c5)
      have HL6 := hideP (HL5.out.other HN2.out hR5 hB6)
      have HB6 := hideP (HB5.out.trans hB6.below)
      have z0 := blk_cell (o := 0) hR6 rfl
      have z1 := blk_cell (o := 1) hR6 rfl
      have z2 := blk_cell (o := 2) hR6 rfl
      clear hW5 hB5 HF4 HR4 HBW4 HL fr cz hF5 hR5 hB6 hR6
      go_wp2
      refine bodyPost_ret (v := .agg #[.slice (some ⟨g2, o2, none⟩) n c2, .int .u64 (f : Int), .slice (some ⟨g5, o5, none⟩) n c5]) (by simp [results, Try.results29, go_sem, z0, z1, z2]) rfl ?_
      exact ⟨⟨f, _, rfl, HL6.out, HFO.out⟩, HB6.out⟩

end Go.Proofs.Ytiekipkmfopdoaa

namespace Go.Proofs.Ytiekipkmfopdoaa
open Go.RowKit Go.Shelf

/-- The run of 'copy' into a row that is known whole. -/
theorem copy_run {P : Program} (w : World) (T ty E : TypeId) (hu : P.underlying T = some (.slice E)) (hs : (P.info? E).map (·.size) = some 1) (dp sp : Option Addr) (dLen dCap sLen sCap : Nat)
    (g off : Nat) (cur : List Value) (t : TypeId) (hg : w.heap[g]? = some (.cells cur.toArray t (0, 0))) (cs : List Value) (hn : cs.length = Nat.min sLen dLen)
    (hpos : 0 < cs.length → dp = some ⟨g, off, none⟩ ∧ ∃ ad, sp = some ad ∧ ∀ j v, cs[j]? = some v → w.cell? (ad.add j) = some v)
    (hfit : off + cs.length ≤ cur.length) (h1 : ∀ v ∈ cs, v.oneCell' = true) :
    ∃ w', (Builtin.copy_ #[T, T] ty #[.slice dp dLen dCap, .slice sp sLen sCap]).run P w = .ok (goInt cs.length) w' ∧ w'.heap[g]? = some (.cells (splice cur off cs).toArray t (0, 0)) ∧ w.grownBy w' (some g) := by
  by_cases h0 : cs.length = 0
  · obtain rfl : cs = [] := List.eq_nil_of_length_eq_zero h0
    refine ⟨w, ?_, by simpa [splice] using hg, World.grownBy.refl _ _⟩
    exact run_copy_none (P := P) w T T ty E dp sp dLen dCap sLen sCap hu hs (by simpa using hn.symm)
  · obtain ⟨rfl, ad, rfl, hsrc⟩ := hpos (by omega)
    refine ⟨_, run_copy_row (P := P) w T T ty E g off dLen dCap ad sLen sCap cur.toArray t cs hu hs hg hn hsrc (by simpa using hfit) h1, ?_, ?_⟩
    · simpa [splice] using setRow_heap w g cur.toArray _ t _ hg
    · exact ⟨rfl, rfl, rfl, by simp [World.setRow], fun k hk hne => setRow_other w g k _ (fun e => hne (by rw [e]))⟩

set_option maxRecDepth 100000 in
theorem copy_words {w : World} {D N n ty : Nat} {z : Value} {f : Nat → Nat} (hD : w.heap[D]? = some (.cells (cw N (fun _ => 0)) 23 (0, 0))) (hz : LW w z n f) (hn : n ≤ N) :
    ∃ w', (Builtin.copy_ #[27, 27] ty #[.slice (some ⟨D, 0, none⟩) N N, z]).run Try.prog w = .ok (goInt n) w' ∧ w'.heap[D]? = some (.cells (cw N (fun j => if j < n then f j else 0)) 23 (0, 0)) ∧ w.grownBy w' (some D) := by
  obtain ⟨g, o, c, rfl, _, _, hg, hc⟩ := hz.ex
  have hsz : (Try.prog.info? 23).map (·.size) = some 1 := by kernel_rfl
  obtain ⟨w', hr, hh, hgr⟩ := copy_run (P := Try.prog) w 27 ty 23 Try.undL hsz (some ⟨D, 0, none⟩) (some ⟨g, o, none⟩) N N n c D 0 (wl N (fun _ => 0)) 23 hD (wl n f) (by rw [wl_len]; exact (Nat.min_eq_left hn).symm) (fun _ => ⟨rfl, _, rfl, fun j v hv => by
    have hj := (List.getElem?_eq_some_iff.1 hv).1
    rw [wl_len] at hj
    rw [wl_get hj] at hv
    rw [Addr.add_mid, hc j hj]
    exact hv⟩) (by rw [wl_len, wl_len]; omega) wl_one
  rw [wl_len] at hr
  refine ⟨w', hr, ?_, hgr⟩
  rw [hh]
  congr 2
  apply Array.ext_getElem?
  intro j
  rw [List.getElem?_toArray]
  unfold splice
  rw [List.take_zero, List.nil_append, wl_len, Nat.zero_add]
  by_cases h1 : j < n
  · rw [List.getElem?_append_left (by rw [wl_len]; exact h1), wl_get h1, cw_get _ (by omega), if_pos h1]
  · rw [List.getElem?_append_right (by rw [wl_len]; omega), wl_len, List.getElem?_drop]
    by_cases h2 : j < N
    · rw [show n + (j - n) = j by omega, wl_get h2, cw_get _ h2, if_neg h1]
    · rw [List.getElem?_eq_none (by rw [wl_len]; omega), Array.getElem?_eq_none (by rw [cw_size]; omega)]

/-- An exponent: so many words. -/
structure EW (w : World) (v : Value) (ne : Nat) (f : Nat → Nat) : Prop where
  lt : ∀ j, f j < 18446744073709551616
  ex : ∃ ao c, v = .slice ao ne c ∧ ∀ j, j < ne → ∃ ad, ao = some ad ∧ ad.block < w.heap.size ∧ w.cell? (ad.add j) = some (.int .u64 (f j))

theorem EW.moved {w w' : World} {v : Value} {n : Nat} {f : Nat → Nat} (h : EW w v n f) (hb : Below w.heap.size w w') : EW w' v n f := by
  refine ⟨h.lt, ?_⟩
  obtain ⟨ao, c, e, hc⟩ := h.ex
  refine ⟨ao, c, e, fun j hj => ?_⟩
  obtain ⟨ad, e1, h1, h2⟩ := hc j hj
  exact ⟨ad, e1, Nat.lt_of_lt_of_le h1 hb.size, (hb.cell (p := ad.add j) (World.block_lt_of_cell? w _ h2)).trans h2⟩

theorem LW.exp {w : World} {v : Value} {n X : Nat} (h : LW w v n (limb X)) : EW w v n (limb X) := by
  obtain ⟨g, o, c, e, h1, h2, hg, hc⟩ := h.ex
  exact ⟨limb_lt X, _, c, e, fun j hj => ⟨_, rfl, hg, by rw [Addr.add_mid]; exact hc j hj⟩⟩

theorem pow_bit (X E p : Nat) : X ^ (E / 2 ^ p) = X ^ (E / 2 ^ (p + 1)) * X ^ (E / 2 ^ (p + 1)) * X ^ (E / 2 ^ p % 2) := by
  have e : E / 2 ^ p = E / 2 ^ (p + 1) + E / 2 ^ (p + 1) + E / 2 ^ p % 2 := by
    rw [Nat.pow_succ, ← Nat.div_div_eq_div_mul]
    omega
  conv => lhs; rw [e, Nat.pow_add, Nat.pow_add]

set_option maxHeartbeats 4000000 in
set_option maxRecDepth 100000 in
/-- The document's Exp. -/
theorem rexp_any {n M : Nat} (hM : FM n M) (X : Nat) (hX : X < M) (ne : Nat) (hne : ne ≤ 8) (f : Nat → Nat) (w : World) (fv u ev : Value) (hF : FF w fv n M) (hu : LW w u n (limb X)) (he : EW w ev ne f) :
    Calls Try.prog 44 #[fv, u, ev] w fun r w' => (∃ v', r = .returned v' ∧ LW w' v' n (limb (X ^ val f ne % M))) ∧ Below w.heap.size w w' := by
  have HU := hideP hu
  have HFF := hideP hF
  obtain ⟨eo, ec, rfl, hec⟩ := he.ex
  have HEC := hideP hec
  have HEL := hideP he.lt
  have HH : Hid (FM n M ∧ X < M ∧ ne ≤ 8) := ⟨hM, hX, hne⟩
  have ew2 : IntKind.i64.wrap ((ne : Int) - 1) = (ne : Int) - 1 := by rw [IntKind.wrap_i64]; omega
  clear hu hM hX he hec hne
  obtain ⟨mv, fo, tv, rfl, hm, ht, hfo⟩ := hF.ex
  have HMV := hideP hm
  have HTV := hideP ht
  have HFO := hideP hfo
  clear hF hm ht hfo
  go_enter Try.func44, Try.ntmps44
  refine wp_seqH (fun K0 HK0 => ?_)
  go_wp2_with fail
  refine HK0.out _ _ ?_
  refine at_world (fun W0 hW0 => ?_)
  have hB0 : W0.heap[w.heap.size]? = some (.cells #[mv, .int .u64 fo, tv] 38 (0, 0)) := by
    rw [hW0]
    exact heap_new _ _
  have HBW : Hid (Below w.heap.size w W0) := by
    show Below _ _ _
    rw [hW0]
    repeat first | exact Below.refl _ _ | (refine Below.alloc ?_ (by simp <;> omega) _)
  have HB0 := hideP hB0
  clear hW0 hB0
  have f0 : W0.cell? ⟨w.heap.size, 0, none⟩ = some mv := blk_cell HB0.out rfl
  have f1 : W0.cell? ⟨w.heap.size, 1, none⟩ = some (.int .u64 fo) := blk_cell HB0.out rfl
  have f2 : W0.cell? ⟨w.heap.size, 2, none⟩ = some tv := blk_cell HB0.out rfl
  obtain ⟨gt, ot, ct, hte, -, -, -, -⟩ := HTV.out.ex
  subst hte
  obtain ⟨gm, om, cm, hme, -, -, -, -⟩ := HMV.out.ex
  subst hme
  have C1 := hideP (rtimes_in HH.out.1 X HH.out.2.1 W0 _ u _ (HFF.out.moved HBW.out) (HU.out.moved HBW.out) (HTV.out.moved HBW.out))
  refine wp_seqH (fun Ka HKa => ?_)
  go_wp2_with fail
  refine C1.out.mono ?_
  rintro r W1 ⟨⟨vx, rfl, hx⟩, hb⟩
  have HXL := hideP hx
  replace HB0 := hideP ((hb.block _ (lt_of_block HB0.out)).trans HB0.out)
  replace HBW := hideP (HBW.out.trans (hb.mono HBW.out.size))
  clear hb hx C1 f0 f1 f2
  go_wp2_with fail
  refine HKa.out _ _ ?_
  refine wp_seqH (fun K1 HK1 => ?_)
  refine wp_region_heldS (S := fun V => Below W1.heap.size W1 V) (by kernel_rfl) ((Below.refl _ _).drew) (fun hS => ?_)
  refine wpAnyH_takeL (i := 0) (v := ?_) rfl (by kernel_rfl) (by kernel_rfl) (by kernel_rfl) (fun _ _ _ h => h) (Or.inl ⟨by kernel_rfl, ?_⟩) hS ?_
  rotate_left
  · intro V hV
    have k0 : V.cell? ⟨w.heap.size, 0, none⟩ = some (.slice (some ⟨gm, om, none⟩) n cm) := blk_cell ((hV.block _ (lt_of_block HB0.out)).trans HB0.out) rfl
    have k1 : V.cell? ⟨w.heap.size, 1, none⟩ = some (.int .u64 fo) := blk_cell ((hV.block _ (lt_of_block HB0.out)).trans HB0.out) rfl
    have k2 : V.cell? ⟨w.heap.size, 2, none⟩ = some (.slice (some ⟨gt, ot, none⟩) n ct) := blk_cell ((hV.block _ (lt_of_block HB0.out)).trans HB0.out) rfl
    go_simp
    (try with_reducible rfl)
  simp only [put_list, List.set_cons_succ, List.set_cons_zero]
  refine wpAnyH_takeL (i := 1) (v := ?_) rfl (by kernel_rfl) (by kernel_rfl) (by kernel_rfl) (fun _ _ _ h => h) (Or.inl ⟨by kernel_rfl, ?_⟩) hS ?_
  rotate_left
  · intro V hV
    have k0 : V.cell? ⟨w.heap.size, 0, none⟩ = some (.slice (some ⟨gm, om, none⟩) n cm) := blk_cell ((hV.block _ (lt_of_block HB0.out)).trans HB0.out) rfl
    have k1 : V.cell? ⟨w.heap.size, 1, none⟩ = some (.int .u64 fo) := blk_cell ((hV.block _ (lt_of_block HB0.out)).trans HB0.out) rfl
    have k2 : V.cell? ⟨w.heap.size, 2, none⟩ = some (.slice (some ⟨gt, ot, none⟩) n ct) := blk_cell ((hV.block _ (lt_of_block HB0.out)).trans HB0.out) rfl
    go_simp
    (try with_reducible rfl)
  simp only [put_list, List.set_cons_succ, List.set_cons_zero]
  refine wpAnyH_takeL (i := 3) (v := ?_) rfl (by kernel_rfl) (by kernel_rfl) (by kernel_rfl) (fun _ _ _ h => h) (Or.inl ⟨by kernel_rfl, ?_⟩) hS ?_
  rotate_left
  · intro V hV
    go_simp
    (try with_reducible rfl)
  simp only [put_list, List.set_cons_succ, List.set_cons_zero]
  refine wpAnyH_takeL (i := 4) (v := ?_) rfl (by kernel_rfl) (by kernel_rfl) (by kernel_rfl) (fun _ _ _ h => h) (Or.inl ⟨by kernel_rfl, ?_⟩) hS ?_
  rotate_left
  · intro V hV
    have k0 : V.cell? ⟨w.heap.size, 0, none⟩ = some (.slice (some ⟨gm, om, none⟩) n cm) := blk_cell ((hV.block _ (lt_of_block HB0.out)).trans HB0.out) rfl
    have k1 : V.cell? ⟨w.heap.size, 1, none⟩ = some (.int .u64 fo) := blk_cell ((hV.block _ (lt_of_block HB0.out)).trans HB0.out) rfl
    have k2 : V.cell? ⟨w.heap.size, 2, none⟩ = some (.slice (some ⟨gt, ot, none⟩) n ct) := blk_cell ((hV.block _ (lt_of_block HB0.out)).trans HB0.out) rfl
    go_simp
    (try with_reducible rfl)
  simp only [put_list, List.set_cons_succ, List.set_cons_zero]
  refine wpAnyH_ready (rs := [2]) (by kernel_rfl) (by simp) (AllReadyH.cons rfl (fun K hK => ?_) AllReadyH.nil)
  go_simp
  refine (rone_any HH.out.1 _ _ (HFF.out.moved (HBW.out.trans (hS.mono HBW.out.size)))).mono ?_
  rintro r y1 ⟨⟨v1, rfl, hL⟩, hb⟩
  refine hK.out _ _ (hS.trans (hb.mono hS.size)) (fun hS2 => ?_)
  clear hS
  have hS := hS2
  clear hS2
  have HL1 := hideP hL
  clear hL
  clear hb
  clear hK K
  refine wpAnyH_ready (rs := [5]) (by kernel_rfl) (by simp) (AllReadyH.cons rfl (fun K hK => ?_) AllReadyH.nil)
  go_simp
  refine (rtimes_in HH.out.1 1 (by have := HH.out.1.ge; omega) _ _ v1 _ (HFF.out.moved (HBW.out.trans (hS.mono HBW.out.size))) HL1.out (HTV.out.moved (HBW.out.trans (hS.mono HBW.out.size)))).mono ?_
  rintro r y2 ⟨⟨v2, rfl, hL⟩, hb⟩
  refine hK.out _ _ (hS.trans (hb.mono hS.size)) (fun hS2 => ?_)
  clear hS
  have hS := hS2
  clear hS2
  have HL2 := hideP hL
  clear hL
  clear hb
  clear hK K
  refine wpAnyH_ready (rs := [6]) (by kernel_rfl) (by simp) (AllReadyH.cons rfl (fun K hK => ?_) AllReadyH.nil)
  go_simp
  refine hK.out _ _ hS (fun hS => ?_)
  clear hK K
  refine wpAnyH_done (by kernel_rfl) ?_ _
  (try simp only [put_none])
  refine HK1.out _ _ ?_
  have HXL2 := hideP (HXL.out.moved hS)
  replace HB0 := hideP ((hS.block _ (lt_of_block HB0.out)).trans HB0.out)
  replace HBW := hideP (HBW.out.trans (hS.mono HBW.out.size))
  clear hS HXL HL1
  obtain ⟨E, hE⟩ : ∃ E, E = val f ne := ⟨_, rfl⟩
  have HEV := hideP hE
  have HEf : Hid (∀ j, j < ne → f j = limb E j) := fun j hj => by rw [hE, limb_val ne (fun j _ => HEL.out j) hj]
  have HI0 : Hid (LW y2 v2 n (limb (elN n M (X ^ (E / 18446744073709551616 ^ ne))))) := by
    show LW _ _ _ _
    rw [Nat.div_eq_of_lt (by rw [hE]; exact val_lt ne (fun j _ => HEL.out j)), Nat.pow_zero]
    exact HL2.out
  rw [← hE]
  clear hE HL2
  refine wp_seqH (fun K2 HK2 => ?_)
  go_wp2_with fail
  go_loopw [8, 9] (fun z i wr => ∃ k : Nat, k ≤ ne ∧ i = .int .i64 ((k : Int) - 1) ∧ LW wr z n (limb (elN n M (X ^ (E / 18446744073709551616 ^ k)))) ∧ LW wr vx n (limb (elN n M X)) ∧ Below w.heap.size w wr ∧ wr.heap[w.heap.size]? = some (.cells #[.slice (some ⟨gm, om, none⟩) n cm, .int .u64 (fo : Int), .slice (some ⟨gt, ot, none⟩) n ct] 38 (0, 0))) (fun _ i _ => (intOf i + 1).toNat)
  case atStart => exact ⟨ne, Nat.le_refl _, rfl, HI0.out, HXL2.out, HBW.out, HB0.out⟩
  case round =>
    obtain ⟨k, hk, rfl, hL, hX, hb, hf⟩ := hrel
    by_cases hz : 0 < k
    · have e1 : (k : Int) - 1 = ((k - 1 : Nat) : Int) := by omega
      have hna := HH.out.2.2
      have e2 : IntKind.i64.wrap (((k - 1 : Nat) : Int) - 1) = ((k - 1 : Nat) : Int) - 1 := by rw [IntKind.wrap_i64]; omega
      have g3 : ((k - 1 : Nat) : Int) < ne := by omega
      have HKS : Hid (k - 1 ≤ ne ∧ 0 < k ∧ k ≤ ne) := ⟨by omega, hz, hk⟩
      have HL : Hid (LW wr u8 n (limb (elN n M (X ^ (E / 2 ^ (64 * (k - 1) + 64)))))) := by
        show LW _ _ _ _
        rw [show 64 * (k - 1) + 64 = 64 * k by omega, ← pow_two]
        exact hL
      have HB := hideP hb
      have HX := hideP hX
      have HF := hideP hf
      obtain ⟨ad, hao, _, _⟩ := HEC.out (k - 1) (by omega)
      subst hao
      rw [e1]
      clear hb hL hk hz e1 hna hX hf
      go_wp2_with fail
      rename World => wA
      go_loopw [8, 10] (fun z kk wr => ∃ j : Nat, j ≤ 64 ∧ kk = .int .i64 ((j : Int) - 1) ∧ LW wr z n (limb (elN n M (X ^ (E / 2 ^ (64 * (k - 1) + j))))) ∧ LW wr vx n (limb (elN n M X)) ∧ Below w.heap.size w wr ∧ wr.heap[w.heap.size]? = some (.cells #[.slice (some ⟨gm, om, none⟩) n cm, .int .u64 (fo : Int), .slice (some ⟨gt, ot, none⟩) n ct] 38 (0, 0))) (fun _ kk _ => (intOf kk + 1).toNat)
      case atStart => exact ⟨64, Nat.le_refl _, rfl, HL.out, HX.out, HB.out, HF.out⟩
      case round =>
        obtain ⟨j, hj, rfl, hL, hX, hb, hf⟩ := hrel
        by_cases hz : 0 < j
        · have e1 : (j : Int) - 1 = ((j - 1 : Nat) : Int) := by omega
          have hk1 : k - 1 < ne := by have := HKS.out; omega
          obtain ⟨ad', hao, hab, hce⟩ := HEC.out (k - 1) hk1
          cases hao
          have hlim := HEf.out (k - 1) hk1
          rw [hlim] at hce
          have HCE := hideP hce
          have HAB := hideP (World.block_lt_of_cell? w _ hce)
          have hlx := limb_lt E (k - 1)
          have hdl : limb E (k - 1) / 2 ^ (j - 1) < 18446744073709551616 := Nat.lt_of_le_of_lt (Nat.div_le_self _ _) hlx
          have hand : bits .and .u64 ((limb E (k - 1) : Int) / 2 ^ (j - 1)) 1 = ((limb E (k - 1) / 2 ^ (j - 1) % 2 : Nat) : Int) := by
            rw [← and_one _ hdl]
            congr 1
          have HPB : Hid (X ^ (E / 2 ^ (64 * (k - 1) + (j - 1))) = X ^ (E / 2 ^ (64 * (k - 1) + j)) * X ^ (E / 2 ^ (64 * (k - 1) + j)) * X ^ (limb E (k - 1) / 2 ^ (j - 1) % 2)) := by
            show _ = _
            rw [bit_at E (k - 1) (j - 1) (by omega), pow_bit X E (64 * (k - 1) + (j - 1)), show 64 * (k - 1) + (j - 1) + 1 = 64 * (k - 1) + j by omega]
          have C := hideP (rtimes_el HH.out.1 (X ^ (E / 2 ^ (64 * (k - 1) + j))) (X ^ (E / 2 ^ (64 * (k - 1) + j))) wr _ _ _ (HFF.out.moved hb) hL hL)
          have q0 : wr.cell? ⟨w.heap.size, 0, none⟩ = some (.slice (some ⟨gm, om, none⟩) n cm) := blk_cell hf rfl
          have q1 : wr.cell? ⟨w.heap.size, 1, none⟩ = some (.int .u64 fo) := blk_cell hf rfl
          have q2 : wr.cell? ⟨w.heap.size, 2, none⟩ = some (.slice (some ⟨gt, ot, none⟩) n ct) := blk_cell hf rfl
          have HJS : Hid (j - 1 ≤ 64 ∧ 0 < j) := ⟨by omega, hz⟩
          have g4 : ((j - 1 : Nat) : Int) < 64 := by omega
          have e3 : IntKind.i64.wrap (((j - 1 : Nat) : Int) - 1) = ((j - 1 : Nat) : Int) - 1 := by rw [IntKind.wrap_i64]; omega
          have e5 : IntKind.u64.wrap ((j - 1 : Nat) : Int) = ((j - 1 : Nat) : Int) := by rw [IntKind.wrap_u64]; omega
          have HB2 := hideP hb
          have HX2 := hideP hX
          have HF2 := hideP hf
          have hb01 : limb E (k - 1) / 2 ^ (j - 1) % 2 = 0 ∨ limb E (k - 1) / 2 ^ (j - 1) % 2 = 1 := by omega
          rw [e1]
          clear hb hL hj hz e1 hk1 hdl hX hf hab hlim hce hlx
          generalize limb E (k - 1) / 2 ^ (j - 1) % 2 = bt at *
          generalize limb E (k - 1) = lv at *
          generalize X ^ (E / 2 ^ (64 * (k - 1) + j)) = Y at *
          generalize hj1 : j - 1 = j1 at *
          generalize hkk : k - 1 = k1 at *
          go_wp2_with fail
          refine C.out.mono ?_
          rintro r w3 ⟨⟨v3, rfl, hL3⟩, hb3⟩
          have HL3 := hideP hL3
          have HX3 := hideP (HX2.out.moved hb3)
          have HF3 := hideP ((hb3.block _ (lt_of_block HF2.out)).trans HF2.out)
          have HB3 := hideP (HB2.out.trans (hb3.mono HB2.out.size))
          have hce3 : w3.cell? (ad.add k1) = some (.int .u64 lv) := (HB3.out.cell (p := ad.add k1) HAB.out).trans HCE.out
          have p0 : w3.cell? ⟨w.heap.size, 0, none⟩ = some (.slice (some ⟨gm, om, none⟩) n cm) := blk_cell HF3.out rfl
          have p1 : w3.cell? ⟨w.heap.size, 1, none⟩ = some (.int .u64 fo) := blk_cell HF3.out rfl
          have p2 : w3.cell? ⟨w.heap.size, 2, none⟩ = some (.slice (some ⟨gt, ot, none⟩) n ct) := blk_cell HF3.out rfl
          clear hL3 hb3 C q0 q1 q2 HX2 HF2 HB2
          rcases hb01 with rfl | rfl
          · have HPB2 := HPB.out
            rw [Nat.pow_zero, Nat.mul_one] at HPB2
            have HPB3 := hideP HPB2
            clear HPB2 HPB
            go_wp2_with fail
            refine ⟨⟨j1, HJS.out.1, by go_num, by rw [HPB3.out]; exact HL3.out, HX3.out, HB3.out, HF3.out⟩, ?_⟩
            have := HJS.out.2
            simp [intOf] <;> omega
          · have HPB2 := HPB.out
            rw [Nat.pow_one] at HPB2
            have HPB3 := hideP HPB2
            have C2 := hideP (rtimes_el HH.out.1 (Y * Y) X w3 _ _ _ (HFF.out.moved HB3.out) HL3.out HX3.out)
            clear HPB2 HPB
            go_wp2_with fail
            refine C2.out.mono ?_
            rintro r w4 ⟨⟨v4, rfl, hL4⟩, hb4⟩
            have HL4 := hideP hL4
            have HX4 := hideP (HX3.out.moved hb4)
            have HF4 := hideP ((hb4.block _ (lt_of_block HF3.out)).trans HF3.out)
            have HB4 := hideP (HB3.out.trans (hb4.mono HB3.out.size))
            clear hL4 hb4 C2
            go_wp2_with fail
            refine ⟨⟨j1, HJS.out.1, by go_num, by rw [HPB3.out]; exact HL4.out, HX4.out, HB4.out, HF4.out⟩, ?_⟩
            have := HJS.out.2
            simp [intOf] <;> omega
        · have hj0 : j = 0 := by omega
          subst hj0
          have HL2 : Hid (LW wr u8 n (limb (elN n M (X ^ (E / 18446744073709551616 ^ (k - 1)))))) := by
            show LW _ _ _ _
            rw [Nat.add_zero, ← pow_two] at hL
            exact hL
          have HB2 := hideP hb
          have HX2 := hideP hX
          have HF2 := hideP hf
          clear hL hb hj hz hX hf
          simp only [Int.natCast_zero, Int.zero_sub]
          generalize hkk : k - 1 = k1 at *
          go_wp2_with fail
          refine ⟨⟨k1, HKS.out.1, by go_num, HL2.out, HX2.out, HB2.out, HF2.out⟩, ?_⟩
          have := HKS.out.2
          simp [intOf] <;> omega
    · have hk0 : k = 0 := by omega
      subst hk0
      rw [Nat.pow_zero, Nat.div_one] at hL
      have HL := hideP hL
      have HB := hideP hb
      have HF := hideP hf
      clear hL hb hk hz hX hf
      simp only [Int.natCast_zero, Int.zero_sub]
      go_wp2_with fail
      refine HK2.out _ _ ?_
      obtain ⟨NN, hNN⟩ : ∃ NN, NN = n + n := ⟨_, rfl⟩
      have hn := HH.out.1.n8
      have hmk := make_words wr NN (by omega)
      have en : IntKind.i64.wrap (2 * (n : Int)) = (NN : Int) := by rw [IntKind.wrap_i64]; omega
      have q0 : wr.cell? ⟨w.heap.size, 0, none⟩ = some (.slice (some ⟨gm, om, none⟩) n cm) := blk_cell HF.out rfl
      have HNN : Hid (NN = n + n ∧ n ≤ 8) := ⟨hNN, hn⟩
      clear hNN hn
      refine wp_seqH (fun K3 HK3 => ?_)
      go_wp2_with fail
      refine HK3.out _ _ ?_
      refine at_world (fun W2 hW2 => ?_)
      have hD : W2.heap[wr.heap.size]? = some (.cells (cw NN (fun _ => 0)) 23 (0, 0)) := by
        rw [hW2]
        exact heap_new _ _
      have hB2 : Below wr.heap.size wr W2 := by
        rw [hW2]
        exact (Below.refl _ _).alloc (Nat.le_refl _) _
      obtain ⟨W3, hcp, hD3, hg3⟩ := copy_words (ty := 3) hD (HL.out.moved hB2) (by have := HNN.out; omega)
      have hB3 : Below wr.heap.size W2 W3 := (Below.refl _ _).grown hg3 hB2.size (fun x hx => by cases hx; exact Nat.le_refl _)
      have hB23 := hB2.trans hB3
      have HF3 := hideP ((hB23.block _ (lt_of_block HF.out)).trans HF.out)
      have HB3 := hideP (HB.out.trans (hB23.mono HB.out.size))
      have p0 : W3.cell? ⟨w.heap.size, 0, none⟩ = some (.slice (some ⟨gm, om, none⟩) n cm) := blk_cell HF3.out rfl
      have p1 : W3.cell? ⟨w.heap.size, 1, none⟩ = some (.int .u64 fo) := blk_cell HF3.out rfl
      have p2 : W3.cell? ⟨w.heap.size, 2, none⟩ = some (.slice (some ⟨gt, ot, none⟩) n ct) := blk_cell HF3.out rfl
      have hel := elN_lt HH.out.1 (X ^ E)
      have hlt := HH.out.1.lt
      have hLL : LW W3 (.slice (some ⟨wr.heap.size, 0, none⟩) (n + n) (n + n)) (n + n) (limb (elN n M (X ^ E))) := by
        have h1 := row_LW (by have := HNN.out; omega) hD3
        rw [HNN.out.1] at h1
        refine h1.congr (fun j hj => ?_)
        by_cases h2 : j < n
        · rw [if_pos h2]
        · rw [if_neg h2, limb_high (Nat.lt_trans hel hlt) (by omega)]
      have C := hideP (rreduce_any HH.out.1.n0 HH.out.1.n8 (elN n M (X ^ E)) M fo hlt HH.out.1.pos (Nat.lt_of_lt_of_le hel (Nat.le_mul_of_pos_right _ (Nat.pow_pos (by decide)))) HFO.out W3 _ _ (.slice (some ⟨gt, ot, none⟩) n ct) hLL (HMV.out.moved HB3.out))
      rw [← HNN.out.1] at C
      clear hW2 hmk hD hB2 hB3 hB23 hD3 hg3 hel hlt hLL q0 en
      obtain ⟨g8, o8, c8, hu8, -, -, -, -⟩ := HL.out.ex
      subst hu8
      go_wp2_with fail
      refine C.out.mono ?_
      rintro r W4 ⟨⟨v4, rfl, P, hP1, hP2, hP3⟩, hb⟩
      have HP : Hid (LW W4 v4 n (limb (X ^ E % M))) := by
        show LW _ _ _ _
        have : P = X ^ E % M := by
          refine HH.out.1.uniq hP2 (Nat.mod_lt _ HH.out.1.pos) ?_
          rw [hP3]
          unfold elN
          rw [Nat.mod_mod, Nat.mod_mul_mod]
        rw [← this]
        exact hP1
      have HB4 := hideP (HB3.out.trans (hb.mono HB3.out.size))
      clear hP1 hP2 hP3 hb C p0 p1 p2 hcp
      go_wp2
      go_ret
      exact ⟨⟨_, rfl, HP.out⟩, HB4.out⟩

end Go.Proofs.Ytiekipkmfopdoaa

namespace Go.Proofs.Ytiekipkmfopdoaa
open Go.RowKit Go.Shelf

theorem one_lt_pow {n : Nat} (h : 0 < n) (x : Nat) (hx : x < 18446744073709551616) : x < 18446744073709551616 ^ n := by
  have := Nat.pow_le_pow_right (show 0 < 18446744073709551616 by decide) h
  rw [Nat.pow_one] at this
  omega

set_option maxHeartbeats 2000000 in
set_option maxRecDepth 100000 in
/-- The document's Inv. -/
theorem rinv_any {n M : Nat} (hM : FM n M) (X : Nat) (hX : X < M) (w : World) (fv u : Value) (hF : FF w fv n M) (hu : LW w u n (limb X)) :
    Calls Try.prog 46 #[fv, u] w fun r w' => (∃ v', r = .returned v' ∧ LW w' v' n (limb (X ^ (M - 2) % M))) ∧ Below w.heap.size w w' := by
  have HU := hideP hu
  have HFF := hideP hF
  have HH : Hid (FM n M ∧ X < M) := ⟨hM, hX⟩
  clear hu hM hX
  obtain ⟨mv, fo, tv, rfl, hm, ht, hfo⟩ := hF.ex
  have HMV := hideP hm
  have HTV := hideP ht
  have HFO := hideP hfo
  clear hF hm ht hfo
  go_enter Try.func46, Try.ntmps46
  refine wp_seqH (fun K0 HK0 => ?_)
  go_wp2_with fail
  refine HK0.out _ _ ?_
  refine at_world (fun W0 hW0 => ?_)
  have hB0 : W0.heap[w.heap.size]? = some (.cells #[mv, .int .u64 fo, tv] 38 (0, 0)) := by
    rw [hW0]
    exact heap_new _ _
  have HBW : Hid (Below w.heap.size w W0) := by
    show Below _ _ _
    rw [hW0]
    repeat first | exact Below.refl _ _ | (refine Below.alloc ?_ (by simp <;> omega) _)
  have HB0 := hideP hB0
  clear hW0 hB0
  obtain ⟨gt, ot, ct, hte, -, -, -, -⟩ := HTV.out.ex
  subst hte
  obtain ⟨gm, om, cm, hme, -, -, -, -⟩ := HMV.out.ex
  subst hme
  refine wp_seqH (fun K1 HK1 => ?_)
  refine wp_region_heldS (S := fun V => Below W0.heap.size W0 V) (by kernel_rfl) ((Below.refl _ _).drew) (fun hS => ?_)
  refine wpAnyH_takeL (i := 0) (v := ?_) rfl (by kernel_rfl) (by kernel_rfl) (by kernel_rfl) (fun _ _ _ h => h) (Or.inl ⟨by kernel_rfl, ?_⟩) hS ?_
  rotate_left
  · intro V hV
    go_simp
    (try with_reducible rfl)
  simp only [put_list, List.set_cons_succ, List.set_cons_zero]
  refine wpAnyH_takeL (i := 1) (v := ?_) rfl (by kernel_rfl) (by kernel_rfl) (by kernel_rfl) (fun _ _ _ h => h) (Or.inl ⟨by kernel_rfl, ?_⟩) hS ?_
  rotate_left
  · intro V hV
    have k0 : V.cell? ⟨w.heap.size, 0, none⟩ = some (.slice (some ⟨gm, om, none⟩) n cm) := blk_cell ((hV.block _ (lt_of_block HB0.out)).trans HB0.out) rfl
    have k1 : V.cell? ⟨w.heap.size, 1, none⟩ = some (.int .u64 fo) := blk_cell ((hV.block _ (lt_of_block HB0.out)).trans HB0.out) rfl
    have k2 : V.cell? ⟨w.heap.size, 2, none⟩ = some (.slice (some ⟨gt, ot, none⟩) n ct) := blk_cell ((hV.block _ (lt_of_block HB0.out)).trans HB0.out) rfl
    go_simp
    (try with_reducible rfl)
  simp only [put_list, List.set_cons_succ, List.set_cons_zero]
  refine wpAnyH_takeL (i := 2) (v := ?_) rfl (by kernel_rfl) (by kernel_rfl) (by kernel_rfl) (fun _ _ _ h => h) (Or.inl ⟨by kernel_rfl, ?_⟩) hS ?_
  rotate_left
  · intro V hV
    have k0 : V.cell? ⟨w.heap.size, 0, none⟩ = some (.slice (some ⟨gm, om, none⟩) n cm) := blk_cell ((hV.block _ (lt_of_block HB0.out)).trans HB0.out) rfl
    have k1 : V.cell? ⟨w.heap.size, 1, none⟩ = some (.int .u64 fo) := blk_cell ((hV.block _ (lt_of_block HB0.out)).trans HB0.out) rfl
    have k2 : V.cell? ⟨w.heap.size, 2, none⟩ = some (.slice (some ⟨gt, ot, none⟩) n ct) := blk_cell ((hV.block _ (lt_of_block HB0.out)).trans HB0.out) rfl
    go_simp
    (try with_reducible rfl)
  simp only [put_list, List.set_cons_succ, List.set_cons_zero]
  refine wpAnyH_ready (rs := [3]) (by kernel_rfl) (by simp) (AllReadyH.cons rfl (fun K hK => ?_) AllReadyH.nil)
  go_simp
  refine (rsmall_any HH.out.1 2 (by decide) _ _ (HFF.out.moved (HBW.out.trans (hS.mono HBW.out.size)))).mono ?_
  rintro r y1 ⟨⟨v1, rfl, hL⟩, hb⟩
  refine hK.out _ _ (hS.trans (hb.mono hS.size)) (fun hS2 => ?_)
  clear hS
  have hS := hS2
  clear hS2
  have HL1 := hideP hL
  clear hL
  clear hb
  clear hK K
  refine wpAnyH_ready (rs := [4]) (by kernel_rfl) (by simp) (AllReadyH.cons rfl (fun K hK => ?_) AllReadyH.nil)
  go_simp
  refine (rsub_num HH.out.1.n8 M 2 HH.out.1.lt (one_lt_pow HH.out.1.n0 2 (by decide)) _ _ v1 (HMV.out.moved (HBW.out.trans (hS.mono HBW.out.size))) HL1.out).mono ?_
  rintro r y2 ⟨⟨v2, c2, rfl, hL, -⟩, hb⟩
  refine hK.out _ _ (hS.trans (hb.mono hS.size)) (fun hS2 => ?_)
  clear hS
  have hS := hS2
  clear hS2
  rw [if_neg (by have := HH.out.1.ge; omega)] at hL
  have HL2 := hideP hL
  clear hL
  clear hb
  clear hK K
  refine wpAnyH_takeL (i := 5) (v := ?_) rfl (by kernel_rfl) (by kernel_rfl) (by kernel_rfl) (fun _ _ _ h => h) (Or.inl ⟨by kernel_rfl, ?_⟩) hS ?_
  rotate_left
  · intro V hV
    go_simp
    (try with_reducible rfl)
  simp only [put_list, List.set_cons_succ, List.set_cons_zero]
  refine wpAnyH_takeL (i := 6) (v := ?_) rfl (by kernel_rfl) (by kernel_rfl) (by kernel_rfl) (fun _ _ _ h => h) (Or.inl ⟨by kernel_rfl, ?_⟩) hS ?_
  rotate_left
  · intro V hV
    go_simp
    (try with_reducible rfl)
  simp only [put_list, List.set_cons_succ, List.set_cons_zero]
  refine wpAnyH_takeL (i := 7) (v := ?_) rfl (by kernel_rfl) (by kernel_rfl) (by kernel_rfl) (fun _ _ _ h => h) (Or.inl ⟨by kernel_rfl, ?_⟩) hS ?_
  rotate_left
  · intro V hV
    go_simp
    (try with_reducible rfl)
  simp only [put_list, List.set_cons_succ, List.set_cons_zero]
  refine wpAnyH_ready (rs := [8]) (by kernel_rfl) (by simp) (AllReadyH.cons rfl (fun K hK => ?_) AllReadyH.nil)
  go_simp
  refine hK.out _ _ hS (fun hS => ?_)
  clear hK K
  refine wpAnyH_ready (rs := [9]) (by kernel_rfl) (by simp) (AllReadyH.cons rfl (fun K hK => ?_) AllReadyH.nil)
  go_simp
  refine hK.out _ _ hS (fun hS => ?_)
  clear hK K
  refine wpAnyH_done (by kernel_rfl) ?_ _
  (try simp only [put_none])
  refine HK1.out _ _ ?_
  have f0 : y2.cell? ⟨w.heap.size, 0, none⟩ = some (.slice (some ⟨gm, om, none⟩) n cm) := blk_cell ((hS.block _ (lt_of_block HB0.out)).trans HB0.out) rfl
  have f1 : y2.cell? ⟨w.heap.size, 1, none⟩ = some (.int .u64 fo) := blk_cell ((hS.block _ (lt_of_block HB0.out)).trans HB0.out) rfl
  have f2 : y2.cell? ⟨w.heap.size, 2, none⟩ = some (.slice (some ⟨gt, ot, none⟩) n ct) := blk_cell ((hS.block _ (lt_of_block HB0.out)).trans HB0.out) rfl
  have HB2 := hideP (HBW.out.trans (hS.mono HBW.out.size))
  have C := hideP (rexp_any HH.out.1 X HH.out.2 n HH.out.1.n8 (limb (M - 2)) y2 _ u v2 (HFF.out.moved HB2.out) (HU.out.moved HB2.out) HL2.out.exp)
  rw [val_limbs (Nat.lt_of_le_of_lt (Nat.sub_le _ _) HH.out.1.lt)] at C
  clear hS HBW HL1
  go_wp2_with fail
  refine C.out.mono ?_
  rintro r y3 ⟨⟨v3, rfl, hL⟩, hb⟩
  have HL3 := hideP hL
  have HB3 := hideP (HB2.out.trans (hb.mono HB2.out.size))
  clear hL hb C
  go_wp2
  go_ret
  exact ⟨⟨_, rfl, HL3.out⟩, HB3.out⟩

/-- A quarter's limb. -/
theorem quart_limb (M j : Nat) : limb (M / 4) j = limb M j / 4 + limb M (j + 1) % 4 * 4611686018427387904 := by
  unfold limb
  rw [Nat.pow_succ, ← Nat.div_div_eq_div_mul, Nat.div_div_eq_div_mul, Nat.mul_comm 4, ← Nat.div_div_eq_div_mul]
  generalize M / 18446744073709551616 ^ j = y
  omega

/-- Where the quarter has come to. -/
structure QR (W wr : World) (D n M k : Nat) : Prop where
  cells : wr.heap[D]? = some (.cells (cw n (fun j => if j < k then limb (M / 4) j else 0)) 23 (0, 0))
  but : But D W wr

theorem or_quart (x y : Nat) (hx : x < 18446744073709551616) : bits .or .u64 ((x / 4 : Nat) : Int) ((y * 4611686018427387904 % 18446744073709551616 : Nat) : Int) = ((x / 4 + y % 4 * 4611686018427387904 : Nat) : Int) := by
  have h := bits_or_u64_nat (x / 4) (y * 4611686018427387904 % 18446744073709551616) (by omega) (by omega)
  have e0 : y * 4611686018427387904 % 18446744073709551616 = 2 ^ 62 * (y % 4) := by omega
  have e : x / 4 ||| y * 4611686018427387904 % 18446744073709551616 = x / 4 + y % 4 * 4611686018427387904 := by
    rw [e0, Nat.or_comm, ← Nat.two_pow_add_eq_or_of_lt (show x / 4 < 2 ^ 62 by omega)]
    omega
  rw [h, e]

/-- The document's root: what it answers, and whether. -/
def rootD (M X : Nat) : Nat := if X ^ ((M + 1) / 4) % M * (X ^ ((M + 1) / 4) % M) % M = X then X ^ ((M + 1) / 4) % M else 0
def rootDB (M X : Nat) : Bool := decide (X ^ ((M + 1) / 4) % M * (X ^ ((M + 1) / 4) % M) % M = X)

set_option maxHeartbeats 4000000 in
set_option maxRecDepth 100000 in
/-- The document's Root. -/
theorem rroot_any {n M : Nat} (hn2 : 2 ≤ n) (hM : FM n M) (X : Nat) (hX : X < M) (w : World) (fv u : Value) (hF : FF w fv n M) (hu : LW w u n (limb X)) :
    Calls Try.prog 34 #[fv, u] w fun r w' => (∃ v', r = .returned (.tuple #[v', .bool (rootDB M X)]) ∧ LW w' v' n (limb (rootD M X))) ∧ Below w.heap.size w w' := by
  have HU := hideP hu
  have HFF := hideP hF
  have HH : Hid (FM n M ∧ X < M) := ⟨hM, hX⟩
  clear hu hM hX
  obtain ⟨mv, fo, tv, rfl, hm, ht, hfo⟩ := hF.ex
  have HMV := hideP hm
  have HTV := hideP ht
  have HFO := hideP hfo
  clear hF hm ht hfo
  go_enter Try.func34, Try.ntmps34
  refine wp_seqH (fun K0 HK0 => ?_)
  go_wp2_with fail
  refine HK0.out _ _ ?_
  refine at_world (fun W0 hW0 => ?_)
  have hB0 : W0.heap[w.heap.size]? = some (.cells #[mv, .int .u64 fo, tv] 38 (0, 0)) := by
    rw [hW0]
    exact heap_new _ _
  have HBW : Hid (Below w.heap.size w W0) := by
    show Below _ _ _
    rw [hW0]
    repeat first | exact Below.refl _ _ | (refine Below.alloc ?_ (by simp <;> omega) _)
  have HB0 := hideP hB0
  clear hW0 hB0
  obtain ⟨gt, ot, ct, hte, -, -, -, -⟩ := HTV.out.ex
  subst hte
  obtain ⟨gm, om, cm, hme, -, -, hml, hmc⟩ := HMV.out.ex
  subst hme
  have HMC := hideP hmc
  have f0 : W0.cell? ⟨w.heap.size, 0, none⟩ = some (.slice (some ⟨gm, om, none⟩) n cm) := blk_cell HB0.out rfl
  have hn := HH.out.1.n8
  have hn0 := HH.out.1.n0
  have hmk := make_words W0 n (by omega)
  have ew : IntKind.i64.wrap (n : Int) = (n : Int) := by rw [IntKind.wrap_i64]; omega
  have HN : Hid (n ≤ 8 ∧ 0 < n) := ⟨hn, hn0⟩
  have hW0s := lt_of_block HB0.out
  clear hn hn0 hmc
  refine wp_seqH (fun K1 HK1 => ?_)
  go_wp2_with fail
  refine HK1.out _ _ ?_
  refine at_world (fun W1 hW1 => ?_)
  have hD : W1.heap[W0.heap.size]? = some (.cells (cw n (fun _ => 0)) 23 (0, 0)) := by
    rw [hW1]
    exact heap_new _ _
  have HBd : Hid (Below W0.heap.size W0 W1) := by
    show Below _ _ _
    rw [hW1]
    exact (Below.refl _ _).alloc (Nat.le_refl _) _
  have HI0 : Hid (QR W1 W1 W0.heap.size n M 0) := ⟨by rw [cw_congr (g := fun _ => 0) (fun j _ => by rw [if_neg (by omega)])]; exact hD, But.refl _ _⟩
  have HB1 := hideP ((HBd.out.block _ hW0s).trans HB0.out)
  have HBW1 := hideP (HBW.out.trans (HBd.out.mono HBW.out.size))
  have hDW : w.heap.size ≤ W0.heap.size := HBW.out.size
  clear hW1 hmk hD HBW HBd HB0 f0
  generalize W0.heap.size = D at *
  refine wp_seqH (fun K2 HK2 => ?_)
  go_wp2_with fail
  go_loopw [15] (fun i wr => ∃ k : Nat, k ≤ n ∧ i = .int .i64 k ∧ QR W1 wr D n M k) (fun i _ => n - (intOf i).toNat)
  case atStart => exact ⟨0, Nat.zero_le _, rfl, HI0.out⟩
  case round =>
    obtain ⟨k, hk, rfl, I⟩ := hrel
    have HI := hideP I
    clear I
    obtain ⟨hn, hn0⟩ := HN.out
    by_cases hlt : k < n
    · have f0 : wr.cell? ⟨w.heap.size, 0, none⟩ = some (.slice (some ⟨gm, om, none⟩) n cm) := blk_cell ((HI.out.but.same _ (by omega)).trans HB1.out) rfl
      have hmov : ∀ j, j < n → wr.cell? ⟨gm, om + j, none⟩ = some (.int .u64 (limb M j)) := fun j hj => by
        rw [HI.out.but.cell (show gm ≠ D by omega), HBW1.out.cell (p := ⟨gm, om + j, none⟩) hml]
        exact HMC.out j hj
      have ca := hmov k hlt
      have cd := blk_cell HI.out.cells (cw_get _ hlt)
      have fr : ∀ o, wr.frozen? ⟨D, o, none⟩ = false := fun o => blk_free HI.out.cells
      have hlt' : (k : Int) < n := by omega
      have e4 : IntKind.i64.wrap ((k : Int) + 1) = (k : Int) + 1 := by rw [IntKind.wrap_i64]; omega
      have HKS : Hid (k + 1 ≤ n) := hlt
      have hx := limb_lt M k
      have s1 : (limb M k : Int) / 4 = ((limb M k / 4 : Nat) : Int) := by omega
      by_cases hlast : k + 1 < n
      · have cb := hmov (k + 1) hlast
        have HO := hideP (or_quart (limb M k) (limb M (k + 1)) hx)
        have hq := quart_limb M k
        have s2 : IntKind.u64.wrap ((limb M (k + 1) : Int) * 4611686018427387904) = ((limb M (k + 1) * 4611686018427387904 % 18446744073709551616 : Nat) : Int) := by rw [IntKind.wrap_u64]; omega
        have hls : (k : Int) + 1 < n := by omega
        obtain ⟨k1, hk1⟩ : ∃ k1, k1 = k + 1 := ⟨_, rfl⟩
        have e5 : (k : Int) + 1 = (k1 : Int) := by omega
        have e6 : IntKind.i64.wrap (k1 : Int) = (k1 : Int) := by rw [IntKind.wrap_i64]; omega
        have hset1 := blk_set (o := k) HI.out.cells (.int .u64 ((limb M k / 4 : Nat) : Int))
        have c1 := blk_cell hset1 (by rw [cw_set]; exact cw_get _ hlt)
        have fr1 : ∀ o, (wr.setCell ⟨D, k, none⟩ (.int .u64 ((limb M k / 4 : Nat) : Int))).frozen? ⟨D, o, none⟩ = false := fun o => blk_free hset1
        have hB1 := (But.refl D wr).set k (.int .u64 ((limb M k / 4 : Nat) : Int))
        have f1 : (wr.setCell ⟨D, k, none⟩ (.int .u64 ((limb M k / 4 : Nat) : Int))).cell? ⟨w.heap.size, 0, none⟩ = some (.slice (some ⟨gm, om, none⟩) n cm) := (hB1.cell (by omega)).trans f0
        have cb1 : (wr.setCell ⟨D, k, none⟩ (.int .u64 ((limb M k / 4 : Nat) : Int))).cell? ⟨gm, om + k1, none⟩ = some (.int .u64 (limb M (k + 1))) := by rw [hk1]; exact (hB1.cell (show gm ≠ D by omega)).trans cb
        rw [if_pos rfl] at c1
        have HQ : Hid (QR W1 ((wr.setCell ⟨D, k, none⟩ (.int .u64 ((limb M k / 4 : Nat) : Int))).setCell ⟨D, k, none⟩ (.int .u64 ((limb M k / 4 + limb M (k + 1) % 4 * 4611686018427387904 : Nat) : Int))).drew D n M k1) := by
          rw [hk1]
          refine ⟨?_, ((HI.out.but.set _ _).set _ _).drew⟩
          have := blk_set (o := k) hset1 (.int .u64 ((limb M k / 4 + limb M (k + 1) % 4 * 4611686018427387904 : Nat) : Int))
          rw [cw_set, cw_set, cw_congr (g := fun j => if j < k + 1 then limb (M / 4) j else 0) (fun j hj => by
            by_cases h1 : j = k
            · subst h1
              rw [if_pos rfl, if_pos (by omega), hq]
            · rw [if_neg h1, if_neg h1]
              by_cases h2 : j < k
              · rw [if_pos h2, if_pos (by omega)]
              · rw [if_neg h2, if_neg (by omega)])] at this
          exact this
        have g1 : (k1 : Int) < n := by omega
        have HK1 : Hid (k1 = k + 1) := hk1
        clear hq hx hmov hset1 hB1 hls cb hk hlt hlast hn hn0 HI hk1
        generalize limb M k / 4 + limb M (k + 1) % 4 * 4611686018427387904 = qq at *
        generalize limb M (k + 1) * 4611686018427387904 % 18446744073709551616 = sh at *
        generalize limb M (k + 1) = y at *
        generalize limb M k / 4 = x4 at *
        generalize limb M k = x at *
        go_wp2_with fail
        go_region
        go_wp2_with fail
        rw [HO.out]
        exact ⟨⟨k1, by have := HKS.out; have := HK1.out; omega, rfl, HQ.out⟩, by have := HKS.out; have := HK1.out; simp [intOf]; omega⟩
      · have hls : ¬ (k : Int) + 1 < n := by omega
        have HQ : Hid (QR W1 (wr.setCell ⟨D, k, none⟩ (.int .u64 ((limb M k / 4 : Nat) : Int))) D n M (k + 1)) := by
          refine ⟨?_, HI.out.but.set _ _⟩
          have := blk_set (o := k) HI.out.cells (.int .u64 ((limb M k / 4 : Nat) : Int))
          rw [cw_set, cw_congr (g := fun j => if j < k + 1 then limb (M / 4) j else 0) (fun j hj => by
            by_cases h1 : j = k
            · subst h1
              rw [if_pos rfl, if_pos (by omega), quart_limb, limb_high HH.out.1.lt (show n ≤ j + 1 by omega), Nat.zero_mod, Nat.zero_mul, Nat.add_zero]
            · rw [if_neg h1]
              by_cases h2 : j < k
              · rw [if_pos h2, if_pos (by omega)]
              · rw [if_neg h2, if_neg (by omega)])] at this
          exact this
        clear hx hmov hk hlt hlast hn hn0 HI
        generalize limb M k / 4 = x4 at *
        generalize limb M k = x at *
        go_wp2_with fail
        exact ⟨⟨k + 1, HKS.out, by go_num, HQ.out⟩, by have := HKS.out; simp [intOf]; omega⟩
    · have hkn : k = n := by omega
      have hnl : ¬ (k : Int) < n := by omega
      have HJ : Hid (QR W1 wr D n M n) := hkn ▸ HI.out
      have HE0 : Hid (LW wr (.slice (some ⟨D, 0, none⟩) n n) n (limb (M / 4))) := (row_LW (by omega) HJ.out.cells).congr (fun j hj => by rw [if_pos hj])
      have hb := HBW1.out.trans (HJ.out.but.below.mono hDW)
      have HBr := hideP hb
      have HFb := hideP ((HJ.out.but.same _ (show w.heap.size ≠ D by omega)).trans HB1.out)
      have hc0 := HMC.out 0 hn0
      rw [Nat.add_zero] at hc0
      have ca : wr.cell? ⟨gm, om, none⟩ = some (.int .u64 (limb M 0)) := (hb.cell (p := ⟨gm, om, none⟩) hml).trans hc0
      have f0 : wr.cell? ⟨w.heap.size, 0, none⟩ = some (.slice (some ⟨gm, om, none⟩) n cm) := blk_cell HFb.out rfl
      have f1 : wr.cell? ⟨w.heap.size, 1, none⟩ = some (.int .u64 fo) := blk_cell HFb.out rfl
      have f2 : wr.cell? ⟨w.heap.size, 2, none⟩ = some (.slice (some ⟨gt, ot, none⟩) n ct) := blk_cell HFb.out rfl
      have g0 : (0 : Int) < (n : Int) := by omega
      have hl0 : limb M 0 = M % 18446744073709551616 := by simp [limb]
      have hr4 : ((limb M 0 : Int)).tmod 4 = ((M % 4 : Nat) : Int) := by rw [Int.tmod_eq_emod_of_nonneg (by omega), hl0]; omega
      have hw4 : IntKind.u64.wrap ((M % 4 : Nat) : Int) = ((M % 4 : Nat) : Int) := by rw [IntKind.wrap_u64]; omega
      have hod := HH.out.1.odd
      have hlt4 : M / 4 < 18446744073709551616 ^ n := Nat.lt_of_le_of_lt (Nat.div_le_self _ _) HH.out.1.lt
      generalize limb M 0 = m0 at *
      clear hk hlt hn hn0 hkn HI HJ hb hc0 hl0 HI0
      have h13 : M % 4 = 3 ∨ M % 4 = 1 := by omega
      rcases h13 with h4 | h4
      · have hq : M / 4 + 1 = (M + 1) / 4 := by omega
        have hlt5 : M / 4 + 1 < 18446744073709551616 ^ n := by have := HH.out.1.lt; have := HH.out.1.ge; omega
        rw [h4] at hr4 hw4
        have C1 := hideP (rsmall_any HH.out.1 1 (by decide) wr _ (HFF.out.moved HBr.out))
        have HFwr := HFb
        have HBwr := HBr
        have HQ5 : Hid (M / 4 + 1 = (M + 1) / 4 ∧ M / 4 + 1 < 18446744073709551616 ^ n ∧ M / 4 < 18446744073709551616 ^ n) := ⟨hq, hlt5, hlt4⟩
        clear h4 hq hlt5 hlt4 hod HFb HBr
        replace hr4 : (m0 : Int).tmod 4 = 3 := hr4
        replace hw4 : IntKind.u64.wrap (3 : Int) = 3 := hw4
        replace C1 : Hid (Calls Try.prog 82 #[.agg #[.slice (some ⟨gm, om, none⟩) n cm, .int .u64 (fo : Int), .slice (some ⟨gt, ot, none⟩) n ct], .int .u64 (1 : Int)] wr fun r w' => (∃ v', r = .returned v' ∧ LW w' v' n (limb 1)) ∧ Below wr.heap.size wr w') := C1
        go_wp2_with fail
        refine HK2.out _ _ ?_
        go_wp2_with fail
        refine C1.out.mono ?_
        rintro r x0 ⟨⟨v0, rfl, hL⟩, hb⟩
        have HL0 := hideP hL
        have HFx0 := hideP ((hb.block _ (lt_of_block HFwr.out)).trans HFwr.out)
        have HBx0 := hideP (HBwr.out.trans (hb.mono HBwr.out.size))
        replace HE0 := hideP (HE0.out.moved hb)
        have f0x0 : x0.cell? ⟨w.heap.size, 0, none⟩ = some (.slice (some ⟨gm, om, none⟩) n cm) := blk_cell HFx0.out rfl
        have f1x0 : x0.cell? ⟨w.heap.size, 1, none⟩ = some (.int .u64 fo) := blk_cell HFx0.out rfl
        have f2x0 : x0.cell? ⟨w.heap.size, 2, none⟩ = some (.slice (some ⟨gt, ot, none⟩) n ct) := blk_cell HFx0.out rfl
        clear hL hb C1 f0 f1 f2 ca
        have C2 := hideP (radd_num HH.out.1.n8 (M / 4) 1 HQ5.out.2.2 (one_lt_pow HH.out.1.n0 1 (by decide)) x0 _ v0 HE0.out HL0.out)
        rw [if_pos HQ5.out.2.1, HQ5.out.1] at C2
        go_wp2_with fail
        refine C2.out.mono ?_
        rintro r xE ⟨⟨vE, cE, rfl, hL, -⟩, hb⟩
        have HLE := hideP hL
        have HFxE := hideP ((hb.block _ (lt_of_block HFx0.out)).trans HFx0.out)
        have HBxE := hideP (HBx0.out.trans (hb.mono HBx0.out.size))
        have f0xE : xE.cell? ⟨w.heap.size, 0, none⟩ = some (.slice (some ⟨gm, om, none⟩) n cm) := blk_cell HFxE.out rfl
        have f1xE : xE.cell? ⟨w.heap.size, 1, none⟩ = some (.int .u64 fo) := blk_cell HFxE.out rfl
        have f2xE : xE.cell? ⟨w.heap.size, 2, none⟩ = some (.slice (some ⟨gt, ot, none⟩) n ct) := blk_cell HFxE.out rfl
        clear hL hb C2 f0x0 f1x0 f2x0
        have C := hideP (rexp_any HH.out.1 X HH.out.2 n HH.out.1.n8 (limb ((M + 1) / 4)) xE _ u vE (HFF.out.moved HBxE.out) (HU.out.moved HBxE.out) HLE.out.exp)
        rw [val_limbs (Nat.lt_of_le_of_lt (show (M + 1) / 4 ≤ M by have := HH.out.1.ge; omega) HH.out.1.lt)] at C
        go_wp2_with fail
        refine C.out.mono ?_
        rintro r x1 ⟨⟨vr, rfl, hL⟩, hb⟩
        have HLR := hideP hL
        have HFx1 := hideP ((hb.block _ (lt_of_block HFxE.out)).trans HFxE.out)
        have HBx1 := hideP (HBxE.out.trans (hb.mono HBxE.out.size))
        have f0x1 : x1.cell? ⟨w.heap.size, 0, none⟩ = some (.slice (some ⟨gm, om, none⟩) n cm) := blk_cell HFx1.out rfl
        have f1x1 : x1.cell? ⟨w.heap.size, 1, none⟩ = some (.int .u64 fo) := blk_cell HFx1.out rfl
        have f2x1 : x1.cell? ⟨w.heap.size, 2, none⟩ = some (.slice (some ⟨gt, ot, none⟩) n ct) := blk_cell HFx1.out rfl
        clear hL hb C
        have hR0 : X ^ ((M + 1) / 4) % M < M := Nat.mod_lt _ HH.out.1.pos
        have HRD : Hid (rootDB M X = decide (X ^ ((M + 1) / 4) % M * (X ^ ((M + 1) / 4) % M) % M = X) ∧ rootD M X = if X ^ ((M + 1) / 4) % M * (X ^ ((M + 1) / 4) % M) % M = X then X ^ ((M + 1) / 4) % M else 0) := ⟨rfl, rfl⟩
        generalize X ^ ((M + 1) / 4) % M = R0 at *
        have C := hideP (rmulMod_any HH.out.1 R0 R0 hR0 hR0 x1 _ vr vr (HFF.out.moved HBx1.out) HLR.out HLR.out)
        have HR0 := hideP hR0
        clear hR0
        go_wp2_with fail
        refine C.out.mono ?_
        rintro r x2 ⟨⟨vs, rfl, hL⟩, hb⟩
        have HLS := hideP hL
        have HFx2 := hideP ((hb.block _ (lt_of_block HFx1.out)).trans HFx1.out)
        have HBx2 := hideP (HBx1.out.trans (hb.mono HBx1.out.size))
        replace HLR := hideP (HLR.out.moved hb)
        have f0x2 : x2.cell? ⟨w.heap.size, 0, none⟩ = some (.slice (some ⟨gm, om, none⟩) n cm) := blk_cell HFx2.out rfl
        have f1x2 : x2.cell? ⟨w.heap.size, 1, none⟩ = some (.int .u64 fo) := blk_cell HFx2.out rfl
        have f2x2 : x2.cell? ⟨w.heap.size, 2, none⟩ = some (.slice (some ⟨gt, ot, none⟩) n ct) := blk_cell HFx2.out rfl
        clear hL hb C f0x1 f1x1 f2x1
        have hS0 : R0 * R0 % M < M := Nat.mod_lt _ HH.out.1.pos
        have C := hideP (rlt_any HH.out.1.n8 (R0 * R0 % M) X (Nat.lt_trans hS0 HH.out.1.lt) (Nat.lt_trans HH.out.2 HH.out.1.lt) x2 vs u HLS.out (HU.out.moved HBx2.out))
        have HS0 := hideP hS0
        clear hS0
        by_cases hlt1 : R0 * R0 % M < X
        · rw [decide_eq_true hlt1] at C
          have HE1 := hideP (show ¬ R0 * R0 % M = X by omega)
          clear hlt1
          go_wp2_with fail
          refine C.out.mono ?_
          rintro r x3 ⟨rfl, hb⟩
          have HFx3 := hideP ((hb.block _ (lt_of_block HFx2.out)).trans HFx2.out)
          have HBx3 := hideP (HBx2.out.trans (hb.mono HBx2.out.size))
          have f0x3 : x3.cell? ⟨w.heap.size, 0, none⟩ = some (.slice (some ⟨gm, om, none⟩) n cm) := blk_cell HFx3.out rfl
          have f1x3 : x3.cell? ⟨w.heap.size, 1, none⟩ = some (.int .u64 fo) := blk_cell HFx3.out rfl
          have f2x3 : x3.cell? ⟨w.heap.size, 2, none⟩ = some (.slice (some ⟨gt, ot, none⟩) n ct) := blk_cell HFx3.out rfl
          clear hb C f0x2 f1x2 f2x2
          have hmk := make_words x3 n (by have := HH.out.1.n8; omega)
          have hD3 := heap_new x3 (.cells (cw n (fun _ => 0)) 23)
          have HD3 := hideP (row_LW (by have := HH.out.1.n8; omega) hD3)
          clear hD3
          go_wp2
          go_ret2
          refine ⟨⟨_, by rw [HRD.out.1, decide_eq_false HE1.out]; rfl, ?_⟩, HBx3.out.trans (((Below.refl _ _).alloc (Nat.le_refl _) _).mono HBx3.out.size)⟩
          rw [HRD.out.2, if_neg HE1.out]
          exact HD3.out.congr (fun j _ => by simp [limb])
        · rw [decide_eq_false hlt1] at C
          have HN1 := hideP hlt1
          clear hlt1
          go_wp2_with fail
          refine C.out.mono ?_
          rintro r x3 ⟨rfl, hb⟩
          have HFx3 := hideP ((hb.block _ (lt_of_block HFx2.out)).trans HFx2.out)
          have HBx3 := hideP (HBx2.out.trans (hb.mono HBx2.out.size))
          replace HLR := hideP (HLR.out.moved hb)
          have f0x3 : x3.cell? ⟨w.heap.size, 0, none⟩ = some (.slice (some ⟨gm, om, none⟩) n cm) := blk_cell HFx3.out rfl
          have f1x3 : x3.cell? ⟨w.heap.size, 1, none⟩ = some (.int .u64 fo) := blk_cell HFx3.out rfl
          have f2x3 : x3.cell? ⟨w.heap.size, 2, none⟩ = some (.slice (some ⟨gt, ot, none⟩) n ct) := blk_cell HFx3.out rfl
          clear hb C f0x2 f1x2 f2x2
          have C := hideP (rmulMod_any HH.out.1 R0 R0 HR0.out HR0.out x3 _ vr vr (HFF.out.moved HBx3.out) HLR.out HLR.out)
          go_wp2_with fail
          refine C.out.mono ?_
          rintro r x4 ⟨⟨vs4, rfl, hL⟩, hb⟩
          have HLS4 := hideP hL
          have HFx4 := hideP ((hb.block _ (lt_of_block HFx3.out)).trans HFx3.out)
          have HBx4 := hideP (HBx3.out.trans (hb.mono HBx3.out.size))
          replace HLR := hideP (HLR.out.moved hb)
          have f0x4 : x4.cell? ⟨w.heap.size, 0, none⟩ = some (.slice (some ⟨gm, om, none⟩) n cm) := blk_cell HFx4.out rfl
          have f1x4 : x4.cell? ⟨w.heap.size, 1, none⟩ = some (.int .u64 fo) := blk_cell HFx4.out rfl
          have f2x4 : x4.cell? ⟨w.heap.size, 2, none⟩ = some (.slice (some ⟨gt, ot, none⟩) n ct) := blk_cell HFx4.out rfl
          clear hL hb C f0x3 f1x3 f2x3
          have C := hideP (rlt_any HH.out.1.n8 X (R0 * R0 % M) (Nat.lt_trans HH.out.2 HH.out.1.lt) (Nat.lt_trans HS0.out HH.out.1.lt) x4 u vs4 (HU.out.moved HBx4.out) HLS4.out)
          by_cases hlt2 : X < R0 * R0 % M
          · rw [decide_eq_true hlt2] at C
            have HE1 := hideP (show ¬ R0 * R0 % M = X by omega)
            clear hlt2
            go_wp2_with fail
            refine C.out.mono ?_
            rintro r x5 ⟨rfl, hb⟩
            have HFx5 := hideP ((hb.block _ (lt_of_block HFx4.out)).trans HFx4.out)
            have HBx5 := hideP (HBx4.out.trans (hb.mono HBx4.out.size))
            have f0x5 : x5.cell? ⟨w.heap.size, 0, none⟩ = some (.slice (some ⟨gm, om, none⟩) n cm) := blk_cell HFx5.out rfl
            have f1x5 : x5.cell? ⟨w.heap.size, 1, none⟩ = some (.int .u64 fo) := blk_cell HFx5.out rfl
            have f2x5 : x5.cell? ⟨w.heap.size, 2, none⟩ = some (.slice (some ⟨gt, ot, none⟩) n ct) := blk_cell HFx5.out rfl
            clear hb C f0x4 f1x4 f2x4
            have hmk := make_words x5 n (by have := HH.out.1.n8; omega)
            have hD3 := heap_new x5 (.cells (cw n (fun _ => 0)) 23)
            have HD3 := hideP (row_LW (by have := HH.out.1.n8; omega) hD3)
            clear hD3
            go_wp2
            go_ret2
            refine ⟨⟨_, by rw [HRD.out.1, decide_eq_false HE1.out]; rfl, ?_⟩, HBx5.out.trans (((Below.refl _ _).alloc (Nat.le_refl _) _).mono HBx5.out.size)⟩
            rw [HRD.out.2, if_neg HE1.out]
            exact HD3.out.congr (fun j _ => by simp [limb])
          · rw [decide_eq_false hlt2] at C
            have HE1 := hideP (show R0 * R0 % M = X by have := HN1.out; omega)
            clear hlt2
            go_wp2_with fail
            refine C.out.mono ?_
            rintro r x5 ⟨rfl, hb⟩
            have HFx5 := hideP ((hb.block _ (lt_of_block HFx4.out)).trans HFx4.out)
            have HBx5 := hideP (HBx4.out.trans (hb.mono HBx4.out.size))
            replace HLR := hideP (HLR.out.moved hb)
            have f0x5 : x5.cell? ⟨w.heap.size, 0, none⟩ = some (.slice (some ⟨gm, om, none⟩) n cm) := blk_cell HFx5.out rfl
            have f1x5 : x5.cell? ⟨w.heap.size, 1, none⟩ = some (.int .u64 fo) := blk_cell HFx5.out rfl
            have f2x5 : x5.cell? ⟨w.heap.size, 2, none⟩ = some (.slice (some ⟨gt, ot, none⟩) n ct) := blk_cell HFx5.out rfl
            clear hb C f0x4 f1x4 f2x4
            go_wp2
            go_ret2
            refine ⟨⟨_, by rw [HRD.out.1, decide_eq_true HE1.out]; rfl, ?_⟩, HBx5.out⟩
            rw [HRD.out.2, if_pos HE1.out]
            exact HLR.out
      · have hq : M / 4 = (M + 1) / 4 := by omega
        rw [h4] at hr4 hw4
        have HFwr := HFb
        have HBwr := HBr
        have f0wr := f0
        have f1wr := f1
        have f2wr := f2
        rw [hq] at HE0
        have HLE := HE0
        clear h4 hq hlt4 hod HFb HBr f0 f1 f2 HE0
        replace hr4 : (m0 : Int).tmod 4 = 1 := hr4
        replace hw4 : IntKind.u64.wrap (1 : Int) = 1 := hw4
        go_wp2_with fail
        refine HK2.out _ _ ?_
        have C := hideP (rexp_any HH.out.1 X HH.out.2 n HH.out.1.n8 (limb ((M + 1) / 4)) wr _ u _ (HFF.out.moved HBwr.out) (HU.out.moved HBwr.out) HLE.out.exp)
        rw [val_limbs (Nat.lt_of_le_of_lt (show (M + 1) / 4 ≤ M by have := HH.out.1.ge; omega) HH.out.1.lt)] at C
        go_wp2_with fail
        refine C.out.mono ?_
        rintro r x1 ⟨⟨vr, rfl, hL⟩, hb⟩
        have HLR := hideP hL
        have HFx1 := hideP ((hb.block _ (lt_of_block HFwr.out)).trans HFwr.out)
        have HBx1 := hideP (HBwr.out.trans (hb.mono HBwr.out.size))
        have f0x1 : x1.cell? ⟨w.heap.size, 0, none⟩ = some (.slice (some ⟨gm, om, none⟩) n cm) := blk_cell HFx1.out rfl
        have f1x1 : x1.cell? ⟨w.heap.size, 1, none⟩ = some (.int .u64 fo) := blk_cell HFx1.out rfl
        have f2x1 : x1.cell? ⟨w.heap.size, 2, none⟩ = some (.slice (some ⟨gt, ot, none⟩) n ct) := blk_cell HFx1.out rfl
        clear hL hb C
        have hR0 : X ^ ((M + 1) / 4) % M < M := Nat.mod_lt _ HH.out.1.pos
        have HRD : Hid (rootDB M X = decide (X ^ ((M + 1) / 4) % M * (X ^ ((M + 1) / 4) % M) % M = X) ∧ rootD M X = if X ^ ((M + 1) / 4) % M * (X ^ ((M + 1) / 4) % M) % M = X then X ^ ((M + 1) / 4) % M else 0) := ⟨rfl, rfl⟩
        generalize X ^ ((M + 1) / 4) % M = R0 at *
        have C := hideP (rmulMod_any HH.out.1 R0 R0 hR0 hR0 x1 _ vr vr (HFF.out.moved HBx1.out) HLR.out HLR.out)
        have HR0 := hideP hR0
        clear hR0
        go_wp2_with fail
        refine C.out.mono ?_
        rintro r x2 ⟨⟨vs, rfl, hL⟩, hb⟩
        have HLS := hideP hL
        have HFx2 := hideP ((hb.block _ (lt_of_block HFx1.out)).trans HFx1.out)
        have HBx2 := hideP (HBx1.out.trans (hb.mono HBx1.out.size))
        replace HLR := hideP (HLR.out.moved hb)
        have f0x2 : x2.cell? ⟨w.heap.size, 0, none⟩ = some (.slice (some ⟨gm, om, none⟩) n cm) := blk_cell HFx2.out rfl
        have f1x2 : x2.cell? ⟨w.heap.size, 1, none⟩ = some (.int .u64 fo) := blk_cell HFx2.out rfl
        have f2x2 : x2.cell? ⟨w.heap.size, 2, none⟩ = some (.slice (some ⟨gt, ot, none⟩) n ct) := blk_cell HFx2.out rfl
        clear hL hb C f0x1 f1x1 f2x1
        have hS0 : R0 * R0 % M < M := Nat.mod_lt _ HH.out.1.pos
        have C := hideP (rlt_any HH.out.1.n8 (R0 * R0 % M) X (Nat.lt_trans hS0 HH.out.1.lt) (Nat.lt_trans HH.out.2 HH.out.1.lt) x2 vs u HLS.out (HU.out.moved HBx2.out))
        have HS0 := hideP hS0
        clear hS0
        by_cases hlt1 : R0 * R0 % M < X
        · rw [decide_eq_true hlt1] at C
          have HE1 := hideP (show ¬ R0 * R0 % M = X by omega)
          clear hlt1
          go_wp2_with fail
          refine C.out.mono ?_
          rintro r x3 ⟨rfl, hb⟩
          have HFx3 := hideP ((hb.block _ (lt_of_block HFx2.out)).trans HFx2.out)
          have HBx3 := hideP (HBx2.out.trans (hb.mono HBx2.out.size))
          have f0x3 : x3.cell? ⟨w.heap.size, 0, none⟩ = some (.slice (some ⟨gm, om, none⟩) n cm) := blk_cell HFx3.out rfl
          have f1x3 : x3.cell? ⟨w.heap.size, 1, none⟩ = some (.int .u64 fo) := blk_cell HFx3.out rfl
          have f2x3 : x3.cell? ⟨w.heap.size, 2, none⟩ = some (.slice (some ⟨gt, ot, none⟩) n ct) := blk_cell HFx3.out rfl
          clear hb C f0x2 f1x2 f2x2
          have hmk := make_words x3 n (by have := HH.out.1.n8; omega)
          have hD3 := heap_new x3 (.cells (cw n (fun _ => 0)) 23)
          have HD3 := hideP (row_LW (by have := HH.out.1.n8; omega) hD3)
          clear hD3
          go_wp2
          go_ret2
          refine ⟨⟨_, by rw [HRD.out.1, decide_eq_false HE1.out]; rfl, ?_⟩, HBx3.out.trans (((Below.refl _ _).alloc (Nat.le_refl _) _).mono HBx3.out.size)⟩
          rw [HRD.out.2, if_neg HE1.out]
          exact HD3.out.congr (fun j _ => by simp [limb])
        · rw [decide_eq_false hlt1] at C
          have HN1 := hideP hlt1
          clear hlt1
          go_wp2_with fail
          refine C.out.mono ?_
          rintro r x3 ⟨rfl, hb⟩
          have HFx3 := hideP ((hb.block _ (lt_of_block HFx2.out)).trans HFx2.out)
          have HBx3 := hideP (HBx2.out.trans (hb.mono HBx2.out.size))
          replace HLR := hideP (HLR.out.moved hb)
          have f0x3 : x3.cell? ⟨w.heap.size, 0, none⟩ = some (.slice (some ⟨gm, om, none⟩) n cm) := blk_cell HFx3.out rfl
          have f1x3 : x3.cell? ⟨w.heap.size, 1, none⟩ = some (.int .u64 fo) := blk_cell HFx3.out rfl
          have f2x3 : x3.cell? ⟨w.heap.size, 2, none⟩ = some (.slice (some ⟨gt, ot, none⟩) n ct) := blk_cell HFx3.out rfl
          clear hb C f0x2 f1x2 f2x2
          have C := hideP (rmulMod_any HH.out.1 R0 R0 HR0.out HR0.out x3 _ vr vr (HFF.out.moved HBx3.out) HLR.out HLR.out)
          go_wp2_with fail
          refine C.out.mono ?_
          rintro r x4 ⟨⟨vs4, rfl, hL⟩, hb⟩
          have HLS4 := hideP hL
          have HFx4 := hideP ((hb.block _ (lt_of_block HFx3.out)).trans HFx3.out)
          have HBx4 := hideP (HBx3.out.trans (hb.mono HBx3.out.size))
          replace HLR := hideP (HLR.out.moved hb)
          have f0x4 : x4.cell? ⟨w.heap.size, 0, none⟩ = some (.slice (some ⟨gm, om, none⟩) n cm) := blk_cell HFx4.out rfl
          have f1x4 : x4.cell? ⟨w.heap.size, 1, none⟩ = some (.int .u64 fo) := blk_cell HFx4.out rfl
          have f2x4 : x4.cell? ⟨w.heap.size, 2, none⟩ = some (.slice (some ⟨gt, ot, none⟩) n ct) := blk_cell HFx4.out rfl
          clear hL hb C f0x3 f1x3 f2x3
          have C := hideP (rlt_any HH.out.1.n8 X (R0 * R0 % M) (Nat.lt_trans HH.out.2 HH.out.1.lt) (Nat.lt_trans HS0.out HH.out.1.lt) x4 u vs4 (HU.out.moved HBx4.out) HLS4.out)
          by_cases hlt2 : X < R0 * R0 % M
          · rw [decide_eq_true hlt2] at C
            have HE1 := hideP (show ¬ R0 * R0 % M = X by omega)
            clear hlt2
            go_wp2_with fail
            refine C.out.mono ?_
            rintro r x5 ⟨rfl, hb⟩
            have HFx5 := hideP ((hb.block _ (lt_of_block HFx4.out)).trans HFx4.out)
            have HBx5 := hideP (HBx4.out.trans (hb.mono HBx4.out.size))
            have f0x5 : x5.cell? ⟨w.heap.size, 0, none⟩ = some (.slice (some ⟨gm, om, none⟩) n cm) := blk_cell HFx5.out rfl
            have f1x5 : x5.cell? ⟨w.heap.size, 1, none⟩ = some (.int .u64 fo) := blk_cell HFx5.out rfl
            have f2x5 : x5.cell? ⟨w.heap.size, 2, none⟩ = some (.slice (some ⟨gt, ot, none⟩) n ct) := blk_cell HFx5.out rfl
            clear hb C f0x4 f1x4 f2x4
            have hmk := make_words x5 n (by have := HH.out.1.n8; omega)
            have hD3 := heap_new x5 (.cells (cw n (fun _ => 0)) 23)
            have HD3 := hideP (row_LW (by have := HH.out.1.n8; omega) hD3)
            clear hD3
            go_wp2
            go_ret2
            refine ⟨⟨_, by rw [HRD.out.1, decide_eq_false HE1.out]; rfl, ?_⟩, HBx5.out.trans (((Below.refl _ _).alloc (Nat.le_refl _) _).mono HBx5.out.size)⟩
            rw [HRD.out.2, if_neg HE1.out]
            exact HD3.out.congr (fun j _ => by simp [limb])
          · rw [decide_eq_false hlt2] at C
            have HE1 := hideP (show R0 * R0 % M = X by have := HN1.out; omega)
            clear hlt2
            go_wp2_with fail
            refine C.out.mono ?_
            rintro r x5 ⟨rfl, hb⟩
            have HFx5 := hideP ((hb.block _ (lt_of_block HFx4.out)).trans HFx4.out)
            have HBx5 := hideP (HBx4.out.trans (hb.mono HBx4.out.size))
            replace HLR := hideP (HLR.out.moved hb)
            have f0x5 : x5.cell? ⟨w.heap.size, 0, none⟩ = some (.slice (some ⟨gm, om, none⟩) n cm) := blk_cell HFx5.out rfl
            have f1x5 : x5.cell? ⟨w.heap.size, 1, none⟩ = some (.int .u64 fo) := blk_cell HFx5.out rfl
            have f2x5 : x5.cell? ⟨w.heap.size, 2, none⟩ = some (.slice (some ⟨gt, ot, none⟩) n ct) := blk_cell HFx5.out rfl
            clear hb C f0x4 f1x4 f2x4
            go_wp2
            go_ret2
            refine ⟨⟨_, by rw [HRD.out.1, decide_eq_true HE1.out]; rfl, ?_⟩, HBx5.out⟩
            rw [HRD.out.2, if_pos HE1.out]
            exact HLR.out
end Go.Proofs.Ytiekipkmfopdoaa

namespace Go.Proofs.Ytiekipkmfopdoaa
open Go.RowKit Go.Shelf

def setM (PV : Nat → Value) (d : Nat) (p : Option Nat) (t : List Value) : List Value := match p with | none => t | some b => t.set d (PV b)

theorem setM_set {PV : Nat → Value} {d c : Nat} {p : Option Nat} {t : List Value} {v : Value} (h : d ≠ c) : (setM PV d p t).set c v = setM PV d p (t.set c v) := by
  cases p with
  | none => rfl
  | some b => exact List.set_comm _ _ h

theorem TM_get {PV : Nat → Value} {d s : Nat} {p : Option Nat} {t : List Value} (h : s ≠ d) : (setM PV d p t)[s]? = t[s]? := by
  cases p with
  | none => rfl
  | some b => exact List.getElem?_set_ne (Ne.symm h)

/-- A state of the calls. -/
structure StM (PV : Nat → Value) (zc : Array Value) (t d1 : Nat) (cd : Nat → Nat) (V : Nat → Value) (L : Nat → Bool → Array Bool) (l : List Value) (ds : List Deferred) (W0 : World) (n m k : Nat) (listed : Array Bool) (a : Act) (w : World) (i : Nat) (p : Option Nat) : Prop where
  i2 : i ≤ n
  k : k + i + one? p = m
  listed : listed = L i p.isSome
  a : a = { tmps := (setM PV d1 p (TC cd V l i)).toArray, defers := ds }
  b : Below W0.heap.size W0 w
  fp : FreshZ zc t W0.heap.size w p

theorem TC_get {cd : Nat → Nat} {V : Nat → Value} {l : List Value} {x n : Nat} (hx : ∀ i, i < n → x ≠ cd i) : ∀ i, i ≤ n → (TC cd V l i)[x]? = l[x]?
  | 0, _ => rfl
  | i + 1, h => by
    show ((TC cd V l i).set (cd i) (V i))[x]? = l[x]?
    rw [List.getElem?_set_ne (Ne.symm (hx i (by omega)))]
    exact TC_get hx i (by omega)

/-- An operation that a guard lets through. -/
theorem wanted_of {l : List Oper} {o og : Oper} {T : List Value} {g d : Nat} {b : Bool} (ho : o.guard = some (g, b)) (hg : l[g]? = some og) (hd : og.dst = some d) (ht : T[d]? = some (.bool b)) : Region.wanted o (yielded l.toArray T.toArray) = true := by
  unfold Region.wanted
  rw [ho]
  simp [yielded, hg, hd, ht]

theorem regionM {P : Program} {md : Region.Mode} {ops : Array Oper} {Q : Exit → Act → World → Prop} {W0 w : World} {l : List Value} {ds : List Deferred} {r : Nat} {listed : Array Bool} (PV : Nat → Value) (n : Nat) (ci cd : Nat → Nat) (V : Nat → Value) (L : Nat → Bool → Array Bool) (zc : Array Value) (t a1 d1 : Nat)
    (hchk : chkO md ops n ci a1 L = true) (hcd : ∀ i, i < n → d1 ≠ cd i) (hlisted : listed = L 0 false) (hw : Below W0.heap.size W0 w)
    (hc : ∀ i, i < n → ∀ (T : List Value) (w : World) (K : Act → World → Prop), Below W0.heap.size W0 w → (∀ x, x ≠ d1 → T[x]? = (TC cd V l i)[x]?) → (∀ w', Below w.heap.size w w' → K { tmps := (T.set (cd i) (V i)).toArray, defers := ds } w') → wpOp P ops Q (ci i) K { tmps := T.toArray, defers := ds } w)
    (h1 : ∀ (T : List Value) (w : World) (K : Act → World → Prop), (∀ x, (∀ i, i < n → x ≠ cd i) → T[x]? = l[x]?) → K { tmps := (T.set d1 (PV w.heap.size)).toArray, defers := ds } (w.alloc (.cells zc t (0, 0))) → wpOp P ops Q a1 K { tmps := T.toArray, defers := ds } w)
    (hend : ∀ (w : World) (b1 : Nat), Below W0.heap.size W0 w → W0.heap.size ≤ b1 → w.heap[b1]? = some (.cells zc t (0, 0)) →
      wpAnyH P md ops Q (fun V => Below W0.heap.size W0 V) r (L n true) { tmps := ((TC cd V l n).set d1 (PV b1)).toArray, defers := ds } w) :
    wpAnyH P md ops Q (fun V => Below W0.heap.size W0 V) (r + 1 + n) listed { tmps := l.toArray, defers := ds } w := by
  refine wpAnyH_stageE (Φ := fun k listed a w => ∃ i p, StM PV zc t d1 cd V L l ds W0 n (r + 1 + n) k listed a w i p) ?_ (r + 1 + n) listed _ w ⟨0, none, ⟨by omega, by simp [one?], hlisted, rfl, hw, FreshZ.none⟩⟩
  rintro k listed a w ⟨i, p, I⟩
  obtain ⟨hi2, hk, hli, ha, hb, fp⟩ := I
  subst hli ha
  unfold chkO at hchk
  simp only [Bool.and_eq_true, decide_eq_true_eq] at hchk
  obtain ⟨⟨hchk, hE⟩, hE2⟩ := hchk
  have hone : one? p ≤ 1 := by unfold one?; split <;> omega
  by_cases hin : i = n
  · subst hin
    cases p with
    | some b1 =>
      have e : k = r := by simp [one?] at hk; omega
      subst e
      exact Or.inl (hend w b1 hb (fp b1 rfl).1 (fp b1 rfl).2)
    | none =>
      obtain ⟨k', rfl⟩ : ∃ k', k = k' + 1 := ⟨k - 1, by simp [one?] at hk; omega⟩
      refine Or.inr ⟨k', rfl, by show Region.ready md ops (L i false) ≠ []; rw [hE]; simp, fun j hj => ?_⟩
      replace hj : j ∈ Region.ready md ops (L i false) := hj
      rw [hE, List.mem_singleton] at hj
      subst hj
      exact h1 _ w _ (fun x hx => TC_get hx i hi2) ⟨hb.alloc hb.size _, i, some w.heap.size, ⟨hi2, by simp [one?] at hk ⊢; omega, hE2, rfl, hb.alloc hb.size _, FreshZ.new hb.size⟩⟩
  · have hlt : i < n := by omega
    have hbb : ∀ b : Bool, b ∈ [false, true] := fun b => by cases b <;> simp
    have g := List.all_eq_true.1 (List.all_eq_true.1 hchk i (List.mem_range.2 hlt)) p.isSome (hbb _)
    simp only [Bool.and_eq_true, decide_eq_true_eq] at g
    obtain ⟨⟨⟨g1, g2⟩, g3⟩, g4⟩ := g
    obtain ⟨k', rfl⟩ : ∃ k', k = k' + 1 := ⟨k - 1, by omega⟩
    refine Or.inr ⟨k', rfl, not_isEmpty g1, fun j hj => ?_⟩
    have g6 := List.all_eq_true.1 g2 j hj
    simp only [Bool.or_eq_true, Bool.and_eq_true, beq_iff_eq, Bool.not_eq_true'] at g6
    rcases g6 with rfl | ⟨rfl, hn⟩
    · refine hc i hlt _ w _ hb (fun x x1 => TM_get x1) (fun w' hb' => ⟨hb.trans (hb'.mono hb.size), i + 1, p, ⟨hlt, by omega, g3, by rw [setM_set (hcd i hlt)]; rfl, hb.trans (hb'.mono hb.size), fp.call hb'⟩⟩)
    · have e : p = none := by cases p with | none => rfl | some _ => cases hn
      subst e
      refine h1 _ w _ (fun x hx => TC_get hx i hi2) ⟨hb.alloc hb.size _, i, some w.heap.size, ⟨hi2, by simp [one?] at hk ⊢; omega, g4, rfl, hb.alloc hb.size _, FreshZ.new hb.size⟩⟩

/-- The slots of two variables. -/
def TF2 (d1 d2 : Nat) (l : List Value) (p q : Option Nat) : List Value := setO d2 q (setO d1 p l)

section
variable {d1 d2 : Nat} {l : List Value} {p q : Option Nat}
theorem TF2_get {x : Nat} (h1 : x ≠ d1) (h2 : x ≠ d2) : (TF2 d1 d2 l p q)[x]? = l[x]? := by
  unfold TF2
  rw [setO_get (Ne.symm h2), setO_get (Ne.symm h1)]
theorem TF2_set {d : Nat} {v : Value} (h1 : d1 ≠ d) (h2 : d2 ≠ d) : (TF2 d1 d2 l p q).set d v = TF2 d1 d2 (l.set d v) p q := by
  unfold TF2
  rw [setO_set h2, setO_set h1]
theorem TF2_p (h12 : d1 ≠ d2) (b : Nat) : (TF2 d1 d2 l none q).set d1 (.pointer (some ⟨b, 0, none⟩)) = TF2 d1 d2 l (some b) q := by
  unfold TF2
  rw [setO_set (Ne.symm h12)]
  rfl
theorem TF2_q (b : Nat) : (TF2 d1 d2 l p none).set d2 (.pointer (some ⟨b, 0, none⟩)) = TF2 d1 d2 l p (some b) := rfl
end

/-- Two variables that are made are two. -/
def Apart2 (p q : Option Nat) : Prop := ∀ b c, p = some b → q = some c → b ≠ c
theorem Apart2.none1 {q : Option Nat} : Apart2 none q := fun _ _ h => by cases h
theorem Apart2.none2 {q : Option Nat} : Apart2 q none := fun _ _ _ h => by cases h

/-- Which operations may come up, state by state. -/
def chk2v (md : Region.Mode) (ops : Array Oper) (n : Nat) (ci : Nat → Nat) (a1 a2 : Nat) (L : Nat → Bool → Bool → Array Bool) : Bool :=
  (List.range (n + 1)).all fun i => [false, true].all fun p => [false, true].all fun q =>
    (decide (i = n) && p && q) ||
    (!(Region.ready md ops (L i p q)).isEmpty && ((Region.ready md ops (L i p q)).all fun j => (j == ci i && decide (i < n)) || (j == a1 && !p) || (j == a2 && !q)) &&
      (decide (i = n) || decide ((L i p q).setIfInBounds (ci i) true = L (i + 1) p q)) &&
      (p || decide ((L i p q).setIfInBounds a1 true = L i true q)) && (q || decide ((L i p q).setIfInBounds a2 true = L i p true)))

/-- A state of the calls. -/
structure St2v (zc : Array Value) (t d1 d2 : Nat) (cd : Nat → Nat) (V : Nat → Value) (L : Nat → Bool → Bool → Array Bool) (l : List Value) (ds : List Deferred) (W0 : World) (n m k : Nat) (listed : Array Bool) (a : Act) (w : World) (i : Nat) (p q : Option Nat) : Prop where
  i2 : i ≤ n
  k : k + i + one? p + one? q = m
  listed : listed = L i p.isSome q.isSome
  a : a = { tmps := (TF2 d1 d2 (TC cd V l i) p q).toArray, defers := ds }
  b : Below W0.heap.size W0 w
  fp : FreshZ zc t W0.heap.size w p
  fq : FreshZ zc t W0.heap.size w q
  pq : Apart2 p q

theorem FreshZ.apart2 {zc : Array Value} {t N : Nat} {w : World} {p : Option Nat} (h : FreshZ zc t N w p) : Apart2 (some w.heap.size) p := fun b c e1 e2 => by
  cases e1
  have := lt_of_block (h c e2).2
  omega
theorem Apart2.symm {p q : Option Nat} (h : Apart2 p q) : Apart2 q p := fun b c e1 e2 => (h c b e2 e1).symm

theorem regionQ {P : Program} {md : Region.Mode} {ops : Array Oper} {Q : Exit → Act → World → Prop} {W0 w : World} {l : List Value} {ds : List Deferred} {r0 : Nat} {listed : Array Bool} (n : Nat) (ci cd : Nat → Nat) (V : Nat → Value) (L : Nat → Bool → Bool → Array Bool) (zc : Array Value) (t a1 a2 d1 d2 : Nat)
    (hchk : chk2v md ops n ci a1 a2 L = true) (hd : d1 ≠ d2) (hcd : ∀ i, i < n → d1 ≠ cd i ∧ d2 ≠ cd i) (hlisted : listed = L 0 false false) (hw : Below W0.heap.size W0 w)
    (hc : ∀ i, i < n → ∀ (T : List Value) (w : World) (K : Act → World → Prop), Below W0.heap.size W0 w → (∀ x, x ≠ d1 → x ≠ d2 → T[x]? = (TC cd V l i)[x]?) → (∀ w', Below w.heap.size w w' → K { tmps := (T.set (cd i) (V i)).toArray, defers := ds } w') → wpOp P ops Q (ci i) K { tmps := T.toArray, defers := ds } w)
    (h1 : ∀ (T : List Value) (w : World) (K : Act → World → Prop), K { tmps := (T.set d1 (.pointer (some ⟨w.heap.size, 0, none⟩))).toArray, defers := ds } (w.alloc (.cells zc t (0, 0))) → wpOp P ops Q a1 K { tmps := T.toArray, defers := ds } w)
    (h2 : ∀ (T : List Value) (w : World) (K : Act → World → Prop), K { tmps := (T.set d2 (.pointer (some ⟨w.heap.size, 0, none⟩))).toArray, defers := ds } (w.alloc (.cells zc t (0, 0))) → wpOp P ops Q a2 K { tmps := T.toArray, defers := ds } w)
    (hend : ∀ (w : World) (b1 b2 : Nat), Below W0.heap.size W0 w → W0.heap.size ≤ b1 → W0.heap.size ≤ b2 → w.heap[b1]? = some (.cells zc t (0, 0)) → w.heap[b2]? = some (.cells zc t (0, 0)) → b1 ≠ b2 →
      wpAnyH P md ops Q (fun V => Below W0.heap.size W0 V) r0 (L n true true) { tmps := (((TC cd V l n).set d1 (.pointer (some ⟨b1, 0, none⟩))).set d2 (.pointer (some ⟨b2, 0, none⟩))).toArray, defers := ds } w) :
    wpAnyH P md ops Q (fun V => Below W0.heap.size W0 V) (r0 + 2 + n) listed { tmps := l.toArray, defers := ds } w := by
  refine wpAnyH_stageE (Φ := fun k listed a w => ∃ i p q, St2v zc t d1 d2 cd V L l ds W0 n (r0 + 2 + n) k listed a w i p q) ?_ (r0 + 2 + n) listed _ w ⟨0, none, none, ⟨by omega, by simp [one?], hlisted, rfl, hw, FreshZ.none, FreshZ.none, Apart2.none1⟩⟩
  rintro k listed a w ⟨i, p, q, I⟩
  obtain ⟨hi2, hk, hli, ha, hb, fp, fq, pq⟩ := I
  subst hli ha
  have hbb : ∀ b : Bool, b ∈ [false, true] := fun b => by cases b <;> simp
  have g := List.all_eq_true.1 (List.all_eq_true.1 (List.all_eq_true.1 hchk i (List.mem_range.2 (by omega))) p.isSome (hbb _)) q.isSome (hbb _)
  have o1 : one? p ≤ 1 := by unfold one?; split <;> omega
  have o2 : one? q ≤ 1 := by unfold one?; split <;> omega
  by_cases hdone : i = n ∧ p.isSome = true ∧ q.isSome = true
  · obtain ⟨rfl, hp, hq⟩ := hdone
    obtain ⟨b1, rfl⟩ := Option.isSome_iff_exists.1 hp
    obtain ⟨b2, rfl⟩ := Option.isSome_iff_exists.1 hq
    have e : k = r0 := by simp [one?] at hk; omega
    subst e
    exact Or.inl (hend w b1 b2 hb (fp b1 rfl).1 (fq b2 rfl).1 (fp b1 rfl).2 (fq b2 rfl).2 (pq b1 b2 rfl rfl))
  · have hnd : (decide (i = n) && p.isSome && q.isSome) = false := by
      rw [Bool.eq_false_iff]
      intro h
      simp only [Bool.and_eq_true, decide_eq_true_eq] at h
      exact hdone ⟨h.1.1, h.1.2, h.2⟩
    rw [hnd, Bool.false_or] at g
    simp only [Bool.and_eq_true] at g
    obtain ⟨⟨⟨⟨g1, g2⟩, gc⟩, gp⟩, gq⟩ := g
    have hk0 : 0 < k := by
      apply Nat.pos_of_ne_zero
      intro e
      subst e
      have h1' : i = n := by omega
      have h2' : one? p = 1 := by omega
      have h3' : one? q = 1 := by omega
      unfold one? at h2' h3'
      exact hdone ⟨h1', by split at h2' <;> simp_all, by split at h3' <;> simp_all⟩
    obtain ⟨k', rfl⟩ : ∃ k', k = k' + 1 := ⟨k - 1, by omega⟩
    refine Or.inr ⟨k', rfl, not_isEmpty g1, fun j hj => ?_⟩
    have g6 := List.all_eq_true.1 g2 j hj
    simp only [Bool.or_eq_true, Bool.and_eq_true, beq_iff_eq, Bool.not_eq_true', decide_eq_true_eq] at g6
    rcases g6 with (⟨rfl, hlt⟩ | ⟨rfl, hn⟩) | ⟨rfl, hn⟩
    · have hg3 : (L i p.isSome q.isSome).setIfInBounds (ci i) true = L (i + 1) p.isSome q.isSome := by
        rcases Bool.or_eq_true .. ▸ gc with h | h
        · have := of_decide_eq_true h
          omega
        · exact of_decide_eq_true h
      obtain ⟨e1, e2⟩ := hcd i hlt
      refine hc i hlt _ w _ hb (fun x x1 x2 => TF2_get x1 x2) (fun w' hb' => ⟨hb.trans (hb'.mono hb.size), i + 1, p, q, ⟨hlt, by omega, hg3, by rw [TF2_set e1 e2]; rfl, hb.trans (hb'.mono hb.size), fp.call hb', fq.call hb', pq⟩⟩)
    · have e : p = none := by cases p with | none => rfl | some _ => cases hn
      subst e
      rw [show (none : Option Nat).isSome = false from rfl, Bool.false_or] at gp
      refine h1 _ w _ ⟨hb.alloc hb.size _, i, some w.heap.size, q, ⟨hi2, by simp [one?] at hk ⊢; omega, of_decide_eq_true gp, by rw [TF2_p hd], hb.alloc hb.size _, FreshZ.new hb.size, fq.alloc _, fq.apart2⟩⟩
    · have e : q = none := by cases q with | none => rfl | some _ => cases hn
      subst e
      rw [show (none : Option Nat).isSome = false from rfl, Bool.false_or] at gq
      refine h2 _ w _ ⟨hb.alloc hb.size _, i, p, some w.heap.size, ⟨hi2, by simp [one?] at hk ⊢; omega, of_decide_eq_true gq, by rw [TF2_q], hb.alloc hb.size _, fp.alloc _, FreshZ.new hb.size, fp.apart2.symm⟩⟩

end Go.Proofs.Ytiekipkmfopdoaa

namespace Go.Proofs.Ytiekipkmfopdoaa.W6
open Go.RowKit Go.Shelf

theorem LW_box {w : World} {b X : Nat} (h : w.heap[b]? = some (.cells (cs (limb X)) 29 (0, 0))) : LW w (.slice (some ⟨b, 0, none⟩) 6 6) 6 (limb X) :=
  ⟨b, 0, 6, rfl, Nat.le_refl _, by decide, lt_of_block h, fun j hj => by rw [Nat.zero_add]; exact blk_cell h (get (limb X) hj)⟩

set_option maxHeartbeats 1000000 in
set_option maxRecDepth 100000 in
theorem listL_any (X : Nat) (w : World) : Calls Try.prog 49 #[wv X] w fun r w' => (∃ v, r = .returned v ∧ LW w' v 6 (limb X)) ∧ Below w.heap.size w w' := by
  unfold wv cs
  go_enter Try.func49, Try.ntmps49
  refine wp_seqH (fun K0 HK0 => ?_)
  go_wp2_with fail
  refine HK0.out _ _ ?_
  refine at_world (fun W0 hW0 => ?_)
  have hA : W0.heap[w.heap.size]? = some (.cells (cs (limb X)) 29 (0, 0)) := by
    rw [hW0]
    exact heap_new _ _
  have HBW : Hid (Below w.heap.size w W0) := by
    show Below _ _ _
    rw [hW0]
    repeat first | exact Below.refl _ _ | (refine Below.alloc ?_ (by simp <;> omega) _)
  obtain ⟨g, cap, w', hrun, hO, hb⟩ := append_list (by decide) (by decide) (LW_box hA)
  have HU : Hid (LW w' (.slice (some ⟨g, 0, none⟩) 6 cap) 6 (limb X)) := by
    rcases hO with ⟨_, ⟨h, _⟩ | ⟨g2, cap2, cur, e, h1, h2, h3, h4, h5, h6⟩⟩
    · cases h
    · cases e
      refine ⟨g, 0, cap, rfl, h3, h4, lt_of_block h2, fun j hj => ?_⟩
      rw [Nat.zero_add]
      refine blk_cell h2 ?_
      rw [Nat.mul_one] at h6
      have e : cur[j]? = (cur.toList.take 6)[j]? := by
        rw [List.getElem?_take, if_pos hj, Array.getElem?_toList]
      rw [e, h6, wl_get hj]
  have HB := hideP hb
  clear hW0 hA hO hb
  go_wp2_with (refine wpList_append_run rfl _ _ 27 rfl rfl rfl rfl hrun ?_)
  go_ret
  exact ⟨⟨_, rfl, HU.out⟩, HBW.out.trans (HB.out.mono HBW.out.size)⟩

theorem arrayAt_any (g o c : Nat) (W : World) : (Instr.arrayAt 29 (.slice (some ⟨g, o, none⟩) 6 c)).run Try.prog W = .ok (.pointer (some ⟨g, o, none⟩)) W := by
  simp [Instr.arrayAt, run_underlying under]

set_option maxHeartbeats 400000 in
set_option maxRecDepth 100000 in
theorem arrL_any (f : Nat → Nat) (w : World) (v : Value) (h : LW w v 6 f) : Calls Try.prog 22 #[v] w fun r w' => r = .returned (.agg (cs f)) ∧ Below w.heap.size w w' := by
  obtain ⟨g, o, c, rfl, _, _, hlt, hc⟩ := h.ex
  have HC := hideP hc
  clear h hc
  go_enter Try.func22, Try.ntmps22
  refine wp_seqH (fun K0 HK0 => ?_)
  go_wp2_with fail
  refine HK0.out _ _ ?_
  refine at_world (fun W0 hW0 => ?_)
  have hD : W0.heap[w.heap.size]? = some (.cells (cs (fun _ => 0)) 29 (0, 0)) := by
    rw [hW0]
    exact heap_new _ _
  have HBW : Hid (Below w.heap.size w W0) := by
    show Below _ _ _
    rw [hW0]
    exact (Below.refl _ _).alloc (Nat.le_refl _) _
  have hg0 : W0.rangeAt g o (cs f).toList := fun j v hv => by
    have hj : j < 6 := by
      have := (List.getElem?_eq_some_iff.1 hv).1
      simpa [cs] using this
    rw [Array.getElem?_toList, get f hj] at hv
    cases hv
    exact (HBW.out.cell (p := ⟨g, o + j, none⟩) hlt).trans (HC.out j hj)
  have har := arrayAt_any g o c
  clear hW0
  refine wp_seqH (fun K1 HK1 => ?_)
  refine wp_region_list ?_
  refine wpList_plain rfl fun K hK => ?_
  go_simp
  refine hK _ _ ?_
  refine wpList_plain rfl fun K hK => ?_
  go_simp
  refine hK _ _ ?_
  refine wpList_load_mid rfl 29 (.tmp 4) rfl g o rfl (cs f).toList _ hg0 under rfl (info _) ?_
  refine endSlotQ HK1.out (fun _ _ h => h) rfl rfl rfl rfl under rfl (info _) (one _) (by have h1 := thereOf hD; rw [cs_size] at h1 ⊢; exact h1) ?_
  intro wS hBut
  exact ⟨rfl, HBW.out.trans hBut.below⟩

/-- Whether a number may be a modulus. -/
def mayB (m : Nat) : Bool := decide (m % 2 = 1 ∧ 3 ≤ m)

set_option maxHeartbeats 1000000 in
set_option maxRecDepth 100000 in
theorem may_any (m : Nat) (hm : m < R) (b : Nat) (w : World) (hb : w.heap[b]? = some (.cells (cs (limb m)) 29 (0, 0))) : Calls Try.prog 27 #[.slice (some ⟨b, 0, none⟩) 6 6] w fun e w' => e = .returned (.bool (mayB m)) ∧ w = w' := by
  have hcs : ∀ j, j < 6 → w.cell? ⟨b, j, none⟩ = some (.int .u64 (limb m j)) := fun j hj => blk_cell hb (get (limb m) hj)
  have c0 := hcs 0 (by decide)
  have hl0 : limb m 0 = m % 18446744073709551616 := by simp [limb]
  have h0l := limb_lt m 0
  by_cases he : m % 2 = 0
  · have e1 : ((limb m 0 : Int)).tmod 2 = 0 := by rw [Int.tmod_eq_emod_of_nonneg (by omega)]; omega
    have e2 : IntKind.u64.wrap (0 : Int) = 0 := rfl
    have HE : Hid (mayB m = false) := by
      show _ = _
      unfold mayB
      rw [decide_eq_false_iff_not]
      omega
    clear hb he hl0 h0l hcs hm
    go_enter Try.func27, Try.ntmps27
    go_wp2
    go_ret
    exact ⟨by rw [HE.out]; rfl, rfl⟩
  · have e1 : ((limb m 0 : Int)).tmod 2 = 1 := by rw [Int.tmod_eq_emod_of_nonneg (by omega)]; omega
    have e2 : IntKind.u64.wrap (1 : Int) = 1 := rfl
    have HCS := hideP hcs
    have HE : Hid (m % 2 = 1 ∧ m < R ∧ limb m 0 = m % 18446744073709551616) := ⟨by omega, hm, hl0⟩
    clear hb he hl0 h0l hcs hm
    go_enter Try.func27, Try.ntmps27
    go_wp2_with fail
    go_loopw [3, 14] (fun h i wr => wr = w ∧ ∃ k hv : Nat, k ≤ 5 ∧ i = .int .i64 k ∧ h = .int .u64 hv ∧ hv < 18446744073709551616 ∧ (hv = 0 ↔ ∀ j, 1 ≤ j → j < k + 1 → limb m j = 0)) (fun _ i _ => 5 - (intOf i).toNat)
    case atStart => exact ⟨rfl, 0, 0, by omega, rfl, rfl, by decide, ⟨fun _ j h1 h2 => absurd h2 (by omega), fun _ => rfl⟩⟩
    case round =>
      obtain ⟨rfl, k, hv, hk, rfl, rfl, hvl, hiff⟩ := hrel
      by_cases hlt : k < 5
      · have ca := HCS.out (1 + k) (by omega)
        have hx := limb_lt m (1 + k)
        have hor := bits_or_u64_nat hv (limb m (1 + k)) hvl hx
        have hlt' : (k : Int) < 5 := by omega
        have e4 : IntKind.i64.wrap ((k : Int) + 1) = (k : Int) + 1 := by rw [IntKind.wrap_i64]; omega
        have HKS : Hid (k + 1 ≤ 5) := hlt
        have HN : Hid (hv ||| limb m (1 + k) < 18446744073709551616 ∧ (hv ||| limb m (1 + k) = 0 ↔ ∀ j, 1 ≤ j → j < k + 1 + 1 → limb m j = 0)) := by
          refine ⟨Nat.or_lt_two_pow (n := 64) hvl hx, ?_⟩
          rw [Nat.or_eq_zero_iff, hiff]
          constructor
          · rintro ⟨h1, h2⟩ j h3 h4
            by_cases e : j = 1 + k
            · rw [e]; exact h2
            · exact h1 j h3 (by omega)
          · intro h
            exact ⟨fun j h1 h2 => h j h1 (by omega), h (1 + k) (by omega) (by omega)⟩
        generalize hv ||| limb m (1 + k) = nv at *
        generalize limb m (1 + k) = x at *
        clear hk hlt hx hvl hiff
        go_wp2_with fail
        exact ⟨⟨trivial, k + 1, nv, HKS.out, by go_num, rfl, HN.out.1, HN.out.2⟩, by have := HKS.out; simp [intOf]; omega⟩
      · have hkn : k = 5 := by omega
        have hnl : ¬ (k : Int) < 5 := by omega
        rw [hkn] at hiff
        obtain ⟨q1, q2, q3⟩ := HE.out
        by_cases hz : hv = 0
        · subst hz
          have hall := hiff.1 rfl
          have hmm : m = limb m 0 := by
            have h1 := top_zero_m (N := m) (m := 6) (by rw [← R_eq]; exact q2) (6 - 1) 1 (by omega) (fun j h1 h2 => hall j h1 (by omega))
            rw [Nat.pow_one] at h1
            rw [q3, Nat.mod_eq_of_lt h1]
          have hd : mayB m = decide ((3 : Int) ≤ (limb m 0 : Int)) := by
            unfold mayB
            rw [decide_eq_decide, ← hmm]
            omega
          have HD := hideP hd
          clear hk hlt hkn hiff hvl q1 q2 q3 hall hmm hd HE
          generalize limb m 0 = m0 at *
          go_wp2
          go_ret
          exact ⟨by rw [HD.out]; rfl, rfl⟩
        · have hzi : ¬ (hv : Int) = 0 := by omega
          have hd : mayB m = true := by
            unfold mayB
            rw [decide_eq_true_iff]
            refine ⟨q1, ?_⟩
            apply Nat.le_of_not_lt
            intro hlt3
            apply hz
            rw [hiff]
            intro j h1 h2
            exact limb_high (n := 1) (by rw [Nat.pow_one]; omega) h1
          have HD := hideP hd
          clear hk hlt hkn hiff hvl q1 q2 q3 hd HE hz
          go_wp2
          go_ret
          exact ⟨by rw [HD.out]; rfl, rfl⟩

set_option maxHeartbeats 1000000 in
set_option maxRecDepth 100000 in
theorem modulus_any {p m : Nat} {w : World} (hgood : Good w p m) : Calls Try.prog 48 #[.pointer (some ⟨p, 0, none⟩)] w fun e w' => e = .returned (.agg (cs (limb m))) ∧ Below w.heap.size w w' := by
  have hp := hgood.lt
  obtain ⟨f, hMF, hr⟩ := hgood.ex
  have HIS := hideP (fun w (hr : RingAt w p m f (el m 1) (el m R)) => isMade_good hr hMF)
  have HR := hideP hr
  clear hr hMF hgood
  go_enter Try.func48, Try.ntmps48
  refine wp_seqH (fun K0 HK0 => ?_)
  go_wp2_with fail
  refine HK0.out _ _ ?_
  refine at_world (fun W0 hW0 => ?_)
  have hD : W0.heap[w.heap.size]? = some (.cells (cs (fun _ => 0)) 29 (0, 0)) := by
    rw [hW0]
    exact heap_new _ _
  have HBW : Hid (Below w.heap.size w W0) := by
    show Below _ _ _
    rw [hW0]
    repeat first | exact Below.refl _ _ | (refine Below.alloc ?_ (by simp <;> omega) _)
  clear hW0
  have HR0 := hideP (HR.out.belowN hp HBW.out)
  refine wp_seqH (fun K1 HK1 => ?_)
  refine wp_seqH (fun K2 HK2 => ?_)
  go_wp2_with (go_at_call 95; refine (HIS.out _ HR0.out).mono ?_; rintro e w' ⟨rfl, rfl⟩)
  refine HK2.out _ _ ?_
  refine wp_cond_true rfl ?_
  refine wp_region_list ?_
  iterate 3 (refine wpList_plain rfl (fun K hK => ?_); go_simp; refine hK _ _ ?_; clear hK K)
  refine wpList_load_mid rfl 29 (.tmp 7) rfl p 0 rfl (cs (limb m)).toList _ HR0.out.mod under rfl (info _) ?_
  refine wpList_store_mid rfl 29 (.tmp 2) (.tmp 8) rfl w.heap.size 0 (cs (limb m)) rfl rfl (there_cs hD _) (info _) (one _) ?_
  refine wpList_nil ?_
  refine HK1.out _ _ ?_
  have g1 := blk_sets (cs (limb m)).toList 0 hD
  rw [putAll_cs] at g1
  have hB1 := But.sets (cs (limb m)).toList 0 (But.refl w.heap.size W0)
  (try simp only [put_none])
  refine endRowQ (fun _ _ h => h) rfl rfl rfl (by decide) (by show 9 < 10; decide) rfl under rfl (info _) (one _) (rangeOf g1) (there_cs g1 _) ?_
  intro wS hBut
  exact ⟨rfl, HBW.out.trans (hB1.below.trans hBut.below)⟩

end Go.Proofs.Ytiekipkmfopdoaa.W6
