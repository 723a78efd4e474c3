/-
  Inverses modulo 2^64.
-/
import Derived.Test.YtppijhcfodccfaaGreatCurveNoneC07
import Derived.Test.YtppijhcfodccfaaGreatCurveNoneC02
namespace Go.Proofs.YtppijhcfodccfaaGreat.W4
open Go.RowKit Go.Shelf

theorem KP.start {W : World} {R0 : Nat} {g : Nat → Nat} (h : W.heap[R0]? = some (.cells (cs g) 32 (0, 0))) : KP W R0 W := ⟨fun _ _ _ => rfl, Below.refl _ _, g, h⟩

set_option maxHeartbeats 2000000 in
set_option maxRecDepth 100000 in
theorem double_any {p m f o r : Nat} {w : World} (hr : RingAt w p m f o r) (h : MF m f) (X T : Nat) (hX : X < m) (hT : T < 1000000) :
    Calls Tryz.prog 151 #[.pointer (some ⟨p, 0, none⟩), wv X, .int .i64 T] w fun e w' => e = .returned (wv (X * 2 ^ T % m)) ∧ Below w.heap.size w w' := by
  have hp : p < w.heap.size := hr.lt
  have HR := hideP hr
  have HM := hideP h
  have HX := hideP hX
  have HT := hideP hT
  clear hr h hX hT
  unfold wv
  have HLIT := hideP (show cs (limb X) = #[.int .u64 (limb X 0), .int .u64 (limb X 1), .int .u64 (limb X 2), .int .u64 (limb X 3)] from rfl)
  rw [show cs (limb X) = #[.int .u64 (limb X 0), .int .u64 (limb X 1), .int .u64 (limb X 2), .int .u64 (limb X 3)] from rfl]
  go_enter Tryz.func151, Tryz.ntmps151
  go_wp2_with fail
  rename_i Q' K hK
  have HK := hideP hK
  clear hK
  refine at_world (fun W0 hW0 => ?_)
  have hA : W0.heap[w.heap.size]? = some (.cells (cs (limb X)) 32 (0, 0)) := by
    rw [hW0]
    exact (heap_old _ _ (by simp)).trans (heap_new _ _)
  have hD : W0.heap[w.heap.size + 1]? = some (.cells (cs (fun _ => 0)) 32 (0, 0)) := by
    rw [hW0]
    exact heap_new1 _ _ _
  have HBW : Hid (Below w.heap.size w W0) := by
    show Below _ _ _
    rw [hW0]
    repeat first | exact Below.refl _ _ | (refine Below.alloc ?_ (by simp <;> omega) _)
  clear hW0
  have HR0 := hideP (HR.out.belowN hp HBW.out)
  have HA := hideP hA
  have HD := hideP hD
  clear hA hD HR
  go_loopw [8] (fun i wr => ∃ k : Nat, k ≤ T ∧ i = .int .i64 k ∧ wr.heap[w.heap.size]? = some (.cells (cs (limb (X * 2 ^ k % m))) 32 (0, 0)) ∧ KP W0 w.heap.size wr) (fun i _ => T - (intOf i).toNat)
  case atStart => exact ⟨0, Nat.zero_le _, rfl, by rw [Nat.pow_zero, Nat.mul_one, Nat.mod_eq_of_lt HX.out]; exact HA.out, KP.start HA.out⟩
  case round =>
    obtain ⟨k, hk, rfl, hc, hS⟩ := hrel
    have HS := hideP hS
    have HCC := hideP hc
    by_cases hlt : k < T
    · obtain ⟨q0, q1, q2, q3⟩ := cells hc
      have hT := HT.out
      have hlt' : (k : Int) < T := by omega
      have e4 : IntKind.i64.wrap ((k : Int) + 1) = (k : Int) + 1 := by rw [IntKind.wrap_i64]; omega
      have HKS : Hid (k + 1 ≤ T) := hlt
      have hadd := add_any (HS.out.ring HR0.out (by omega)) HM.out (X * 2 ^ k % m) (X * 2 ^ k % m) (Nat.mod_lt _ HM.out.pos) (Nat.mod_lt _ HM.out.pos)
      have e2 : (X * 2 ^ k % m + X * 2 ^ k % m) % m = X * 2 ^ (k + 1) % m := by
        rw [← Nat.add_mod, Nat.pow_succ, ← Nat.mul_assoc, Nat.mul_two]
      rw [e2] at hadd
      unfold wv at hadd
      rw [show cs (limb (X * 2 ^ k % m)) = #[.int .u64 (limb (X * 2 ^ k % m) 0), .int .u64 (limb (X * 2 ^ k % m) 1), .int .u64 (limb (X * 2 ^ k % m) 2), .int .u64 (limb (X * 2 ^ k % m) 3)] from rfl] at hadd
      have HADD := hideP hadd
      clear hadd e2 hS hc hlt hk hT
      go_wp2_with fail
      rename_i QA KA hKA KB hKB
      refine HADD.out.mono ?_
      rintro e w1 ⟨rfl, hb⟩
      refine hKB _ _ ?_
      have hS1 := HS.out.call hb
      refine wpList_store_mid rfl 32 (.tmp 4) (.tmp 13) rfl w.heap.size 0 (cs (limb (X * 2 ^ (k + 1) % m))) rfl rfl (hS1.there _) (info _) (one _) ?_
      refine wpList_nil ?_
      simp only [put_none]
      have hg := hS1.put (limb (X * 2 ^ (k + 1) % m))
      have hS2 := hS1.store (limb (X * 2 ^ (k + 1) % m))
      generalize World.setCells w1 w.heap.size 0 (cs (limb (X * 2 ^ (k + 1) % m))).toList = w2 at hg hS2 ⊢
      have HG := hideP hg
      have HS2 := hideP hS2
      clear hg hS2 hS1 hb hKB q0 q1 q2 q3
      go_wp2_with fail
      exact ⟨⟨k + 1, HKS.out, by go_num, HG.out, HS2.out⟩, by have := HKS.out; simp [intOf]; omega⟩
    · have hkn : k = T := by omega
      have hnl : ¬ (k : Int) < T := by omega
      rw [hkn] at hc
      have HCT := hideP hc
      have HDD := hideP (HS.out.box HD.out (show w.heap.size + 1 ≠ w.heap.size by omega))
      have HBS := hideP (HBW.out.trans HS.out.below)
      clear hc hS hlt hk hkn HCC
      go_wp2_with fail
      refine HK.out _ _ ?_
      refine endRowQ (fun _ _ h => h) rfl rfl rfl (by decide) (by show 15 < 16; decide) rfl under rfl (info _) (one _) (rangeOf HCT.out) (there_cs HDD.out _) ?_
      intro wS hBut
      exact ⟨rfl, HBS.out.trans (hBut.below.mono (by omega))⟩

theorem small_limbs {n : Nat} (hn : n < 18446744073709551616) : cs (limb n) = cs (fun i => if i = 0 then n else 0) := by
  refine cs_congr (fun j hj => ?_)
  unfold limb
  by_cases h : j = 0
  · subst h; simp; omega
  · rw [if_neg h, Nat.div_eq_of_lt (Nat.lt_of_lt_of_le hn (Nat.le_trans (by decide : 18446744073709551616 ≤ 18446744073709551616 ^ 1) (Nat.pow_le_pow_right (by decide) (by omega))))]

set_option maxHeartbeats 400000 in
set_option maxRecDepth 100000 in
theorem small_any (n : Nat) (hn : n < 18446744073709551616) (w : World) : Calls Tryz.prog 148 #[.int .u64 n] w fun e w' => e = .returned (wv n) ∧ Below w.heap.size w w' := by
  unfold wv
  rw [small_limbs hn]
  clear hn
  go_enter Tryz.func148, Tryz.ntmps148
  refine wp_seqH (fun K0 HK0 => ?_)
  go_wp2_with fail
  refine HK0.out _ _ ?_
  refine wp_seqH (fun K1 HK1 => ?_)
  go_wp2_with fail
  refine HK1.out _ _ ?_
  refine wp_seqH (fun K2 HK2 => ?_)
  go_wp2_with fail
  refine HK2.out _ _ ?_
  refine at_world (fun W1 hW1 => ?_)
  have hB : W1.heap[w.heap.size + 1]? = some (.cells (cs (fun i => if i = 0 then n else 0)) 32 (0, 0)) := by
    rw [hW1]
    exact heap_new1 _ _ _
  have hD : W1.heap[w.heap.size]? = some (.cells (cs (fun _ => 0)) 32 (0, 0)) := by
    rw [hW1]
    exact (heap_old _ _ (by simp)).trans (heap_new _ _)
  have hlw : Below w.heap.size w W1 := by
    rw [hW1]
    repeat first | exact Below.refl _ _ | (refine Below.alloc ?_ (by simp <;> omega) _) | (refine Below.setCell ?_ (by simp <;> omega) _)
  refine endRowQ (fun _ _ h => h) rfl rfl rfl (by decide) (by show 6 < 7; decide) rfl under rfl (info _) (one _) (rangeOf hB) (there_cs hD _) ?_
  intro wS hBut
  exact ⟨rfl, hlw.trans (hBut.below.mono (by omega))⟩

theorem bit_limbs {n : Nat} (_hn : n < 256) : cs (limb (2 ^ n)) = cs (fun i => if i = n / 64 then 2 ^ (n % 64) else 0) := by
  refine cs_congr (fun j hj => ?_)
  unfold limb
  have e : (2 : Nat) ^ n = 2 ^ (n % 64) * 18446744073709551616 ^ (n / 64) := by
    rw [show (18446744073709551616 : Nat) = 2 ^ 64 by decide, ← Nat.pow_mul, ← Nat.pow_add, Nat.mod_add_div]
  have hl : 2 ^ (n % 64) < 18446744073709551616 := Nat.lt_of_lt_of_le (Nat.pow_lt_pow_right (by decide) (Nat.mod_lt n (by decide))) (by decide : 2 ^ 64 ≤ 18446744073709551616)
  by_cases h : j = n / 64
  · subst h
    rw [if_pos rfl, e, Nat.mul_div_cancel _ (Nat.pow_pos (by decide)), Nat.mod_eq_of_lt hl]
  · rw [if_neg h]
    rcases Nat.lt_or_gt_of_ne h with h1 | h1
    · have : n / 64 = (n / 64 - j - 1) + 1 + j := by omega
      rw [e, this, Nat.pow_add _ _ j, ← Nat.mul_assoc, Nat.mul_div_cancel _ (Nat.pow_pos (by decide)), Nat.pow_succ, ← Nat.mul_assoc, Nat.mul_mod_left]
    · rw [Nat.div_eq_of_lt]
      rw [e]
      refine Nat.lt_of_lt_of_le (Nat.mul_lt_mul_of_pos_right hl (Nat.pow_pos (by decide))) ?_
      rw [Nat.mul_comm, ← Nat.pow_succ]
      exact Nat.pow_le_pow_right (by decide) h1

set_option maxHeartbeats 400000 in
set_option maxRecDepth 100000 in
theorem bit_any (n : Nat) (hn : n < 256) (w : World) : Calls Tryz.prog 152 #[.int .i64 n] w fun e w' => e = .returned (wv (2 ^ n)) ∧ Below w.heap.size w w' := by
  unfold wv
  rw [bit_limbs hn]
  have hq : n / 64 < 4 := by omega
  have HQ := hideP hq
  have e1 : ((n : Int)).tdiv 64 = ((n / 64 : Nat) : Int) := by rw [Int.tdiv_eq_ediv_of_nonneg (by omega)]; omega
  have e1' : IntKind.i64.wrap ((n / 64 : Nat) : Int) = ((n / 64 : Nat) : Int) := by rw [IntKind.wrap_i64]; omega
  have e2 : ((n : Int)).tmod 64 = ((n % 64 : Nat) : Int) := by rw [Int.tmod_eq_emod_of_nonneg (by omega)]; omega
  have e2' : IntKind.i64.wrap ((n % 64 : Nat) : Int) = ((n % 64 : Nat) : Int) := by rw [IntKind.wrap_i64]; omega
  have g1 : ((n / 64 : Nat) : Int) < 4 := by omega
  have g2 : ((n % 64 : Nat) : Int) < 64 := by omega
  have hl : 2 ^ (n % 64) < 18446744073709551616 := Nat.lt_of_lt_of_le (Nat.pow_lt_pow_right (by decide) (Nat.mod_lt n (by decide))) (by decide : 2 ^ 64 ≤ 18446744073709551616)
  have e3 : IntKind.u64.wrap ((2 : Int) ^ (n % 64)) = ((2 ^ (n % 64) : Nat) : Int) := by
    have e4 : ((2 : Int) ^ (n % 64)) = ((2 ^ (n % 64) : Nat) : Int) := by simp
    rw [e4, M64.wrapN _ hl]
  generalize 2 ^ (n % 64) = v at *
  clear hl hn hq
  generalize n / 64 = q at *
  generalize n % 64 = r at *
  go_enter Tryz.func152, Tryz.ntmps152
  refine wp_seqH (fun K0 HK0 => ?_)
  go_wp2_with fail
  refine HK0.out _ _ ?_
  refine wp_seqH (fun K1 HK1 => ?_)
  go_wp2_with fail
  refine HK1.out _ _ ?_
  refine at_world (fun W0 hW0 => ?_)
  have hB0 : W0.heap[w.heap.size + 1]? = some (.cells (cs (fun _ => 0)) 32 (0, 0)) := by
    rw [hW0]
    exact heap_new1 _ _ _
  have hD0 : W0.heap[w.heap.size]? = some (.cells (cs (fun _ => 0)) 32 (0, 0)) := by
    rw [hW0]
    exact (heap_old _ _ (by simp)).trans (heap_new _ _)
  have HLW : Hid (Below w.heap.size w W0) := by
    show Below _ _ _
    rw [hW0]
    repeat first | exact Below.refl _ _ | (refine Below.alloc ?_ (by simp <;> omega) _)
  clear hW0
  have cz := blk_cell hB0 (get _ HQ.out)
  have fr : ∀ o, W0.frozen? ⟨w.heap.size + 1, o, none⟩ = false := fun o => blk_free hB0
  have HB0 := hideP hB0
  have HD0 := hideP hD0
  clear hB0 hD0
  refine wp_seqH (fun K2 HK2 => ?_)
  go_wp2_with fail
  refine HK2.out _ _ ?_
  refine at_world (fun W1 hW1 => ?_)
  have hB : W1.heap[w.heap.size + 1]? = some (.cells (cs (fun i => if i = q then v else 0)) 32 (0, 0)) := by
    rw [hW1]
    have := blk_set (o := q) HB0.out (.int .u64 v)
    rw [set _ v HQ.out] at this
    exact this
  have hD : W1.heap[w.heap.size]? = some (.cells (cs (fun _ => 0)) 32 (0, 0)) := by
    rw [hW1]
    exact (Below.heap_setCell _ _ _ _ (by show w.heap.size ≠ w.heap.size + 1; omega)).trans HD0.out
  have hlw : Below w.heap.size w W1 := by
    rw [hW1]
    exact Below.setCell HLW.out (by simp) _
  refine endRowQ (fun _ _ h => h) rfl rfl rfl (by decide) (by show 10 < 11; decide) rfl under rfl (info _) (one _) (rangeOf hB) (there_cs hD _) ?_
  intro wS hBut
  exact ⟨rfl, hlw.trans (hBut.below.mono (by omega))⟩

set_option maxHeartbeats 1000000 in
set_option maxRecDepth 100000 in
theorem bitLength_any (m : Nat) (hm : m < R) (h0 : 0 < m) (w : World) : Calls Tryz.prog 150 #[wv m] w fun e w' => (∃ n : Nat, e = .returned (.int .i64 n) ∧ 1 ≤ n ∧ n ≤ 256 ∧ m < 2 ^ n ∧ 2 ^ (n - 1) ≤ m) ∧ Below w.heap.size w w' := by
  have HM := hideP hm
  have H0 := hideP h0
  clear hm h0
  unfold wv cs
  go_enter Tryz.func150, Tryz.ntmps150
  go_wp2_with fail
  refine at_world (fun W0 hW0 => ?_)
  have hA : W0.heap[w.heap.size]? = some (.cells (cs (limb m)) 32 (0, 0)) := by
    rw [hW0]
    exact heap_new _ _
  have HBW : Hid (Below w.heap.size w W0) := by
    show Below _ _ _
    rw [hW0]
    repeat first | exact Below.refl _ _ | (refine Below.alloc ?_ (by simp <;> omega) _)
  clear hW0
  have HA := hideP hA
  clear hA
  go_loopw [3] (fun i wr => wr = W0 ∧ ∃ k : Nat, k ≤ 4 ∧ i = .int .i64 ((k : Int) - 1) ∧ ∀ j, k ≤ j → j < 4 → limb m j = 0) (fun i _ => ((intOf i) + 1).toNat)
  case atStart => exact ⟨rfl, 4, Nat.le_refl _, rfl, fun j h1 h2 => absurd h2 (by omega)⟩
  case round =>
    obtain ⟨rfl, k, hk, rfl, hz⟩ := hrel
    by_cases hk0 : k = 0
    · exfalso
      subst hk0
      have h1 : m < 18446744073709551616 ^ 0 := top_zero_m (m := 4) (by rw [← R_eq]; exact HM.out) 4 0 (by omega) hz
      have := H0.out
      simp at h1
      omega
    · obtain ⟨j, rfl⟩ : ∃ j, k = j + 1 := ⟨k - 1, by omega⟩
      have hj : j < 4 := by omega
      have cj := blk_cell HA.out (get (limb m) hj)
      have ei : ((j + 1 : Nat) : Int) - 1 = (j : Int) := by omega
      rw [ei]
      have g1 : (j : Int) < 4 := by omega
      have g0 : (0 : Int) ≤ j := by omega
      by_cases hn : limb m j = 0
      · have hn' : ((limb m j : Nat) : Int) = 0 := by omega
        have e4 : IntKind.i64.wrap ((j : Int) - 1) = (j : Int) - 1 := by rw [IntKind.wrap_i64]; omega
        have HZ : Hid (∀ i, j ≤ i → i < 4 → limb m i = 0) := fun i h1 h2 => by
          by_cases e : i = j
          · rw [e]; exact hn
          · exact hz i (by omega) h2
        have HJ := hideP hj
        clear hz hn hk hk0 hj
        go_wp2_with fail
        exact ⟨⟨trivial, j, Nat.le_of_lt HJ.out, rfl, HZ.out⟩, by simp [intOf] <;> omega⟩
      · have hl := limb_lt m j
        obtain ⟨p1, p2⟩ := bitLen_pos (x := limb m j) (by omega) hl
        have ht : m < 18446744073709551616 ^ (j + 1) := top_zero_m (m := 4) (by rw [← R_eq]; exact HM.out) (4 - (j + 1)) (j + 1) (by omega) hz
        have HRR : Hid (1 ≤ 64 * j + Lib.bitLen (limb m j) ∧ 64 * j + Lib.bitLen (limb m j) ≤ 256 ∧ m < 2 ^ (64 * j + Lib.bitLen (limb m j)) ∧ 2 ^ (64 * j + Lib.bitLen (limb m j) - 1) ≤ m) := ⟨by omega, by omega, bits_lt ht, bits_ge hn⟩
        have HLEN := hideP (fun W => len64_any (limb m j) W hl)
        generalize Lib.bitLen (limb m j) = bl at HRR HLEN p1 p2
        have hn' : ¬ (((limb m j : Nat) : Int) = 0) := by omega
        have e1 : IntKind.i64.wrap (64 * (j : Int)) = 64 * (j : Int) := by rw [IntKind.wrap_i64]; omega
        have e2 : IntKind.i64.wrap (64 * (j : Int) + bl) = 64 * (j : Int) + bl := by rw [IntKind.wrap_i64]; omega
        clear hz hn hl ht hk hk0 hj p1 p2
        go_wp2_with (go_at_call 218; refine (HLEN.out _).mono ?_; rintro e w' ⟨rfl, rfl⟩)
        go_ret
        exact ⟨⟨64 * j + bl, by simp, HRR.out⟩, HBW.out⟩

end Go.Proofs.YtppijhcfodccfaaGreat.W4

namespace Go.Proofs.YtppijhcfodccfaaGreat
open Go.RowKit Go.Shelf

theorem inv_zero (n : Nat) (hn : n % 2 = 1) : ((1 - (n : Int)) ^ (2 ^ 6)) % 18446744073709551616 = 0 := by
  obtain ⟨k, hk⟩ : ∃ k : Int, 1 - (n : Int) = 2 * k := ⟨(1 - (n : Int)) / 2, by omega⟩
  rw [hk, Int.mul_pow]
  have e : (2 : Int) ^ (2 ^ 6) = 18446744073709551616 := by decide
  rw [e]
  exact Int.mul_emod_right _ _

theorem inv_fin (n x : Nat) (h : (1 - (n : Int) * (x : Int)) % 18446744073709551616 = 0) : n * x % 18446744073709551616 = 1 := by
  have e : ((n : Int) * (x : Int)) = ((n * x : Nat) : Int) := (Int.natCast_mul n x).symm
  rw [e] at h
  omega

theorem mul_em (a b K : Int) : (a * (b % K)) % K = (a * b) % K := by rw [Int.mul_emod, Int.emod_emod, ← Int.mul_emod]

theorem sub_em (a b K : Int) : (a - b % K) % K = (a - b) % K := by rw [Int.sub_emod, Int.emod_emod, ← Int.sub_emod]

theorem inv_wrap (n x : Nat) (d : Int) (h : (1 - (n : Int) * (x : Int)) % 18446744073709551616 = d % 18446744073709551616) : ∃ y : Nat, y < 18446744073709551616 ∧
    IntKind.u64.wrap ((x : Int) * IntKind.u64.wrap (2 - IntKind.u64.wrap ((n : Int) * (x : Int)))) = (y : Int) ∧ (1 - (n : Int) * (y : Int)) % 18446744073709551616 = (d * d) % 18446744073709551616 := by
  refine ⟨(((x : Int) * (2 - (n : Int) * (x : Int))) % 18446744073709551616).toNat, by omega, ?_, ?_⟩
  · have h0 : (0 : Int) ≤ ((x : Int) * (2 - (n : Int) * (x : Int))) % 18446744073709551616 := Int.emod_nonneg _ (by decide)
    rw [Int.toNat_of_nonneg h0]
    simp only [IntKind.wrap_u64]
    rw [mul_em, Int.mul_emod, sub_em, ← Int.mul_emod]
  · have h0 : (0 : Int) ≤ ((x : Int) * (2 - (n : Int) * (x : Int))) % 18446744073709551616 := Int.emod_nonneg _ (by decide)
    rw [Int.toNat_of_nonneg h0, ← MN.inv_step n x d _ h, Int.sub_emod, mul_em, ← Int.sub_emod]

set_option maxHeartbeats 400000 in
set_option maxRecDepth 100000 in
theorem inverse_any (n : Nat) (hn : n % 2 = 1) (w : World) : Calls Tryz.prog 149 #[.int .u64 n] w fun e w' => (∃ x : Nat, e = .returned (.int .u64 x) ∧ x < 18446744073709551616 ∧ n * x % 18446744073709551616 = 1) ∧ w = w' := by
  have HN := hideP hn
  clear hn
  go_enter Tryz.func149, Tryz.ntmps149
  go_wp2_with fail
  go_loopw [3, 4] (fun v i wr => wr = w ∧ ∃ k x : Nat, k ≤ 6 ∧ i = .int .i64 k ∧ v = .int .u64 x ∧ x < 18446744073709551616 ∧ (1 - (n : Int) * (x : Int)) % 18446744073709551616 = ((1 - (n : Int)) ^ (2 ^ k)) % 18446744073709551616) (fun _ i _ => 6 - (intOf i).toNat)
  case atStart => exact ⟨rfl, 0, 1, by omega, rfl, rfl, by decide, by rw [show 2 ^ 0 = 1 from rfl, Int.pow_succ, Int.pow_zero]; simp⟩
  case round =>
    obtain ⟨rfl, k, x, hk, rfl, rfl, hx, hd⟩ := hrel
    by_cases hlt : k < 6
    · obtain ⟨y, hy, e1, e2⟩ := inv_wrap n x _ hd
      rw [← Int.pow_add, ← Nat.two_mul, Nat.mul_comm 2, ← Nat.pow_succ] at e2
      have HY : Hid (y < 18446744073709551616 ∧ (1 - (n : Int) * (y : Int)) % 18446744073709551616 = ((1 - (n : Int)) ^ (2 ^ (k + 1))) % 18446744073709551616) := ⟨hy, e2⟩
      have hlt' : (k : Int) < 6 := by omega
      have e4 : IntKind.i64.wrap ((k : Int) + 1) = (k : Int) + 1 := by rw [IntKind.wrap_i64]; omega
      have HKS : Hid (k + 1 ≤ 6) := hlt
      clear hk hlt hx hd hy e2
      go_wp2_with fail
      exact ⟨⟨trivial, k + 1, y, HKS.out, by go_num, rfl, HY.out.1, HY.out.2⟩, by have := HKS.out; simp [intOf]; omega⟩
    · have hkn : k = 6 := by omega
      have hnl : ¬ (k : Int) < 6 := by omega
      rw [hkn, inv_zero n HN.out] at hd
      have HD : Hid (x < 18446744073709551616 ∧ n * x % 18446744073709551616 = 1) := ⟨hx, inv_fin n x hd⟩
      clear hk hlt hx hd hkn
      go_wp2
      go_ret
      exact ⟨⟨x, rfl, HD.out⟩, rfl⟩

end Go.Proofs.YtppijhcfodccfaaGreat
