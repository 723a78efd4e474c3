/-
  The program's Big and Bytes, of 4 limbs.
-/
import Derived.Test.YtiekipkmfopdoaaBigd4
import Derived.Test.YtiekipkmfopdoaaEndk
namespace Go.Proofs.Ytiekipkmfopdoaa.W4
open Go.RowKit Go.Shelf

set_option maxHeartbeats 2000000 in
set_option maxRecDepth 100000 in
theorem bytes_any (X : Nat) (w : World) : Calls Try.prog 62 #[wv X] w fun r w' => (∃ g, r = .returned (.slice (some ⟨g, 0, none⟩) 32 32) ∧ w'.heap[g]? = some (.cells (cb 32 (fun j => byt X (32 - 1 - j))) 5 (0, 0))) ∧ Below w.heap.size w w' := by
  have hmk : (Instr.makeSlice 62 (.int .i64 (32 : Int)) (.int .i64 (32 : Int))).run Try.prog (w.alloc (.cells #[.int .u64 (limb X 0), .int .u64 (limb X 1), .int .u64 (limb X 2), .int .u64 (limb X 3)] 24 (0, 0))) = .ok (.slice (some ⟨w.heap.size + 1, 0, none⟩) 32 32) ((w.alloc (.cells #[.int .u64 (limb X 0), .int .u64 (limb X 1), .int .u64 (limb X 2), .int .u64 (limb X 3)] 24 (0, 0))).alloc (.cells (cb 32 (fun _ => 0)) 5)) := by
    have := make_bytes (w.alloc (.cells #[.int .u64 (limb X 0), .int .u64 (limb X 1), .int .u64 (limb X 2), .int .u64 (limb X 3)] 24 (0, 0))) 32 (by decide)
    rw [World.size_alloc] at this
    exact this
  unfold wv cs
  go_enter Try.func62, Try.ntmps62
  go_wp2_with fail
  refine at_world (fun W0 hW0 => ?_)
  have hG : W0.heap[w.heap.size + 1]? = some (.cells (cb 32 (fun _ => 0)) 5 (0, 0)) := by
    rw [hW0]
    exact heap_new1 _ _ _
  have hA : W0.heap[w.heap.size]? = some (.cells (cs (limb X)) 24 (0, 0)) := by
    rw [hW0]
    exact (heap_old _ _ (by simp)).trans (heap_new _ _)
  have HA := hideP hA
  have HBW : Hid (Below w.heap.size w W0) := by
    show Below _ _ _
    rw [hW0]
    repeat first | exact Below.refl _ _ | (refine Below.alloc ?_ (by simp <;> omega) _)
  have HG := hideP hG
  clear hW0 hG hmk hA
  go_loopw [11] (fun i wr => ∃ k : Nat, k ≤ 32 ∧ i = .int .i64 k ∧ wr.heap[w.heap.size + 1]? = some (.cells (cb 32 (fun j => if 32 - k ≤ j then byt X (32 - 1 - j) else 0)) 5 (0, 0)) ∧ But (w.heap.size + 1) W0 wr) (fun i _ => 32 - (intOf i).toNat)
  case atStart => exact ⟨0, Nat.zero_le _, rfl, by rw [cb_congr (g := fun _ => 0) (fun j hj => by rw [if_neg (by omega)])]; exact HG.out, But.refl _ _⟩
  case round =>
    obtain ⟨k, hk, rfl, hg, hb⟩ := hrel
    by_cases hlt : k < 32
    · have hq : k / 8 < 4 := by omega
      have ca : wr.cell? ⟨w.heap.size, k / 8, none⟩ = some (.int .u64 (limb X (k / 8))) := (hb.cell (show w.heap.size ≠ w.heap.size + 1 by omega)).trans (blk_cell HA.out (get (limb X) hq))
      have cg := blk_cell hg (cb_get _ (show 32 - 1 - k < 32 by omega))
      have fr : ∀ o, wr.frozen? ⟨w.heap.size + 1, o, none⟩ = false := fun o => blk_free hg
      have h3 := blk_set (o := 32 - 1 - k) hg (.int .u8 ((byt X k : Nat) : Int))
      rw [cb_set, cb_congr (g := fun j => if 32 - (k + 1) ≤ j then byt X (32 - 1 - j) else 0) (fun j hj => by
        by_cases h1 : j = 32 - 1 - k
        · rw [if_pos h1, if_pos (by omega), h1]
          congr 1
          omega
        · rw [if_neg h1]
          by_cases h2 : 32 - k ≤ j
          · rw [if_pos h2, if_pos (by omega)]
          · rw [if_neg h2, if_neg (by omega)])] at h3
      have HBT : Hid ((limb X (k / 8) : Int) / 2 ^ (8 * (k % 8)) % 256 = (byt X k : Int)) := by
        show _ = _
        unfold byt
        simp
      have H3 := hideP h3
      have HB := hideP hb
      have HKS : Hid (k + 1 ≤ 32) := hlt
      have hlt' : (k : Int) < 32 := by omega
      have e1 : IntKind.i64.wrap ((32 : Int) - 1 - (k : Int)) = ((32 - 1 - k : Nat) : Int) := by rw [IntKind.wrap_i64]; omega
      have e4 : IntKind.i64.wrap ((k : Int) + 1) = (k : Int) + 1 := by rw [IntKind.wrap_i64]; omega
      have d1 : ((k : Int)).tdiv 8 = ((k / 8 : Nat) : Int) := by rw [Int.tdiv_eq_ediv_of_nonneg (by omega)]; omega
      have d1' : IntKind.i64.wrap ((k / 8 : Nat) : Int) = ((k / 8 : Nat) : Int) := by rw [IntKind.wrap_i64]; omega
      have d2 : ((k : Int)).tmod 8 = ((k % 8 : Nat) : Int) := by rw [Int.tmod_eq_emod_of_nonneg (by omega)]; omega
      have d2' : IntKind.i64.wrap ((k % 8 : Nat) : Int) = ((k % 8 : Nat) : Int) := by rw [IntKind.wrap_i64]; omega
      have d3 : IntKind.i64.wrap (8 * ((k % 8 : Nat) : Int)) = ((8 * (k % 8) : Nat) : Int) := by rw [IntKind.wrap_i64]; omega
      have g1 : ((k / 8 : Nat) : Int) < 4 := by omega
      have g2 : ((8 * (k % 8) : Nat) : Int) < 64 := by omega
      have g3 : ((32 - 1 - k : Nat) : Int) < 32 := by omega
      simp only [Int.reduceSub, Nat.reduceSub] at e1 g3 cg H3
      generalize limb X (k / 8) = lv at *
      generalize byt X k = bk at *
      generalize 8 * (k % 8) = sh at *
      generalize k / 8 = q at *
      generalize k % 8 = r at *
      clear hg hb hk hlt h3 
      go_wp2_with fail
      refine ⟨⟨k + 1, HKS.out, by go_num, ?_, HB.out.set _ _⟩, by have := HKS.out; simp [intOf]; omega⟩
      rw [HBT.out]
      exact H3.out
    · have hkn : k = 32 := by omega
      have hnl : ¬ (k : Int) < 32 := by omega
      rw [hkn, cb_congr (g := fun j => byt X (32 - 1 - j)) (fun j hj => by rw [if_pos (by omega)])] at hg
      have H3 := hideP hg
      have HB := hideP hb
      clear hg hb hk hlt hkn
      go_wp2
      go_ret
      exact ⟨⟨_, rfl, H3.out⟩, HBW.out.trans (HB.out.below.mono (by omega))⟩

set_option maxHeartbeats 2000000 in
set_option maxRecDepth 100000 in
theorem big_long {ao : Option Addr} {n c : Nat} (hn : 32 < n) (hm : n ≤ 140737488355328) (w : World) : Calls Try.prog 59 #[.slice ao n c] w fun r w' => r = .returned (.tuple #[wv 0, .int .i64 2]) ∧ Below w.heap.size w w' := by
  have g1 : (32 : Int) < (n : Int) := by omega
  have e1 : IntKind.i64.wrap (32 : Int) = 32 := by rw [IntKind.wrap_i64]; omega
  clear hn hm
  go_enter Try.func59, Try.ntmps59
  refine wp_seqH (fun K0 HK0 => ?_)
  go_wp2_with fail
  refine HK0.out _ _ ?_
  refine wp_seqH (fun K1 HK1 => ?_)
  go_wp2_with fail
  refine HK1.out _ _ ?_
  refine at_world (fun W0 hW0 => ?_)
  have hD : W0.heap[w.heap.size]? = some (.cells (cs (fun _ => 0)) 24 (0, 0)) := by
    rw [hW0]
    exact (heap_old _ _ (by simp)).trans (heap_new _ _)
  have hG : W0.heap[w.heap.size + 1]? = some (.cells (cs (fun _ => 0)) 24 (0, 0)) := by
    rw [hW0]
    exact heap_new1 _ _ _
  have HBW : Hid (Below w.heap.size w W0) := by
    show Below _ _ _
    rw [hW0]
    repeat first | exact Below.refl _ _ | (refine Below.alloc ?_ (by simp <;> omega) _)
  obtain ⟨q0, q1, q2, q3⟩ := cells hG
  have HG := hideP hG
  have HD := hideP hD
  clear hW0 hG hD
  refine wp_seqH (fun K2 HK2 => ?_)
  refine wp_seqH (fun K3 HK3 => ?_)
  go_wp2_with fail
  refine HK3.out _ _ ?_
  clear q0 q1 q2 q3
  refine wp_cond_true rfl ?_
  refine endPairK rfl rfl rfl (by decide) (by decide) (by show 12 < 39; decide) (by show 3 < 39; decide) rfl under rfl (info _) (one _) (rangeOf HG.out) (thereOf HD.out) ?_
  intro wS hBut
  refine ⟨?_, HBW.out.trans hBut.below⟩
  unfold wv
  rw [cs_congr (f := limb 0) (g := fun _ => 0) (fun j _ => by simp [limb])]

set_option maxHeartbeats 2000000 in
set_option maxRecDepth 100000 in
theorem big_any {ao : Option Addr} {n c : Nat} {bs : Nat → Nat} (hn : n ≤ 32) (w : World) (h : BS w ao n c bs) : Calls Try.prog 59 #[.slice ao n c] w fun r w' => r = .returned (.tuple #[wv (bv bs n n), .int .i64 0]) ∧ Below w.heap.size w w' := by
  have g1 : ¬ (32 : Int) < (n : Int) := by omega
  have e1 : IntKind.i64.wrap (32 : Int) = 32 := by rw [IntKind.wrap_i64]; omega
  have HS := hideP h
  have HL := hideP hn
  have e0 : IntKind.i64.wrap ((n : Int) - 1) = (n : Int) - 1 := by rw [IntKind.wrap_i64]; omega
  clear h hn
  go_enter Try.func59, Try.ntmps59
  refine wp_seqH (fun K0 HK0 => ?_)
  go_wp2_with fail
  refine HK0.out _ _ ?_
  refine wp_seqH (fun K1 HK1 => ?_)
  go_wp2_with fail
  refine HK1.out _ _ ?_
  refine at_world (fun W0 hW0 => ?_)
  have hD : W0.heap[w.heap.size]? = some (.cells (cs (fun _ => 0)) 24 (0, 0)) := by
    rw [hW0]
    exact (heap_old _ _ (by simp)).trans (heap_new _ _)
  have hG : W0.heap[w.heap.size + 1]? = some (.cells (cs (fun _ => 0)) 24 (0, 0)) := by
    rw [hW0]
    exact heap_new1 _ _ _
  have HBW : Hid (Below w.heap.size w W0) := by
    show Below _ _ _
    rw [hW0]
    repeat first | exact Below.refl _ _ | (refine Below.alloc ?_ (by simp <;> omega) _)
  obtain ⟨q0, q1, q2, q3⟩ := cells hG
  have HG := hideP hG
  have HD := hideP hD
  clear hW0 hG hD
  refine wp_seqH (fun K2 HK2 => ?_)
  refine wp_seqH (fun K3 HK3 => ?_)
  go_wp2_with fail
  refine HK3.out _ _ ?_
  clear q0 q1 q2 q3
  refine wp_cond_false (by show Value.bool (decide ((32 : Int) < (n : Int))) = Value.bool false; rw [decide_eq_false (by omega)]) (wp_skip ?_)
  refine HK2.out _ _ ?_
  refine wp_seqH (fun K4 HK4 => ?_)
  clear g1 e1
  go_wp2_with fail
  go_loopw [15] (fun i wr => ∃ k : Nat, k ≤ n ∧ i = .int .i64 k ∧ wr.heap[w.heap.size + 1]? = some (.cells (cs (limb (bv bs n k))) 24 (0, 0)) ∧ But (w.heap.size + 1) W0 wr) (fun i _ => n - (intOf i).toNat)
  case atStart => exact ⟨0, Nat.zero_le _, rfl, by rw [bv, cs_congr (g := fun _ => 0) (fun j _ => by simp [limb])]; exact HG.out, But.refl _ _⟩
  case round =>
    obtain ⟨k, hk, rfl, hg, hb⟩ := hrel
    by_cases hlt : k < n
    · have hL := HL.out
      have hq : k / 8 < 4 := by omega
      have hV := bv_lt HS.out.lt n k
      have hd := HS.out.lt (n - 1 - k)
      have cg := blk_cell hg (get _ hq)
      have fr : ∀ o, wr.frozen? ⟨w.heap.size + 1, o, none⟩ = false := fun o => blk_free hg
      have hor := or_byte (limb (bv bs n k) (k / 8)) (bs (n - 1 - k)) (8 * (k % 8)) (limb_low_byte hV) hd (by omega)
      have hN := limb_add_byte (bv bs n k) (bs (n - 1 - k)) k
      have h3 := blk_set (o := k / 8) hg (.int .u64 ((limb (bv bs n k) (k / 8) + bs (n - 1 - k) * 2 ^ (8 * (k % 8)) : Nat) : Int))
      rw [set _ _ hq, cs_congr (g := limb (bv bs n (k + 1))) (fun j _ => by
        rw [bv, hN j hV hd]
        by_cases h1 : j = k / 8
        · rw [if_pos h1, if_pos h1, h1]
        · rw [if_neg h1, if_neg h1])] at h3
      have h3' : (wr.drew.setCell ⟨w.heap.size + 1, k / 8, none⟩ (.int .u64 ((limb (bv bs n k) (k / 8) + bs (n - 1 - k) * 2 ^ (8 * (k % 8)) : Nat) : Int))).heap[w.heap.size + 1]? = some (.cells (cs (limb (bv bs n (k + 1)))) 24 (0, 0)) := h3
      have H3 := hideP h3'
      have HB := hideP hb
      have HKS : Hid (k + 1 ≤ n) := hlt
      obtain ⟨ad, rfl, hix⟩ := ((HS.out.moved HBW.out).cell (n - 1 - k) (by omega))
      have hne : (ad.add (n - 1 - k)).block ≠ w.heap.size + 1 := by
        have := (HS.out.cell (n - 1 - k) (by omega))
        obtain ⟨ad', e', hc'⟩ := this
        cases e'
        have := World.block_lt_of_cell? w _ hc'
        omega
      have hix2 : wr.cell? (ad.add (n - 1 - k)) = some (.int .u8 (bs (n - 1 - k))) := by
        rw [← hix]
        simp only [World.cell?, hb.same _ hne]
      have hlt' : (k : Int) < n := by omega
      have i1 : ((n - 1 - k : Nat) : Int) < n := by omega
      have e1 : IntKind.i64.wrap ((n : Int) - 1 - (k : Int)) = ((n - 1 - k : Nat) : Int) := by rw [IntKind.wrap_i64]; omega
      have e4 : IntKind.i64.wrap ((k : Int) + 1) = (k : Int) + 1 := by rw [IntKind.wrap_i64]; omega
      have d1 : ((k : Int)).tdiv 8 = ((k / 8 : Nat) : Int) := by rw [Int.tdiv_eq_ediv_of_nonneg (by omega)]; omega
      have d1' : IntKind.i64.wrap ((k / 8 : Nat) : Int) = ((k / 8 : Nat) : Int) := by rw [IntKind.wrap_i64]; omega
      have d2 : ((k : Int)).tmod 8 = ((k % 8 : Nat) : Int) := by rw [Int.tmod_eq_emod_of_nonneg (by omega)]; omega
      have d2' : IntKind.i64.wrap ((k % 8 : Nat) : Int) = ((k % 8 : Nat) : Int) := by rw [IntKind.wrap_i64]; omega
      have d3 : IntKind.i64.wrap (8 * ((k % 8 : Nat) : Int)) = ((8 * (k % 8) : Nat) : Int) := by rw [IntKind.wrap_i64]; omega
      have d5 : IntKind.u64.wrap ((bs (n - 1 - k) : Nat) : Int) = ((bs (n - 1 - k) : Nat) : Int) := by rw [IntKind.wrap_u64]; omega
      have g1 : ((k / 8 : Nat) : Int) < 4 := by omega
      have g2 : ((8 * (k % 8) : Nat) : Int) < 64 := by omega
      have hp : 2 ^ (8 * (k % 8)) ≤ 2 ^ 56 := Nat.pow_le_pow_right (by decide) (by omega)
      have h60 : (2 : Nat) ^ 56 = 72057594037927936 := by decide
      have hm := Nat.mul_le_mul_right (2 ^ (8 * (k % 8))) (show bs (n - 1 - k) ≤ 255 by omega)
      have hwd : IntKind.u64.wrap ((bs (n - 1 - k) : Int) * 2 ^ (8 * (k % 8))) = ((bs (n - 1 - k) * 2 ^ (8 * (k % 8)) : Nat) : Int) := by
        have e : ((bs (n - 1 - k) : Int) * 2 ^ (8 * (k % 8))) = ((bs (n - 1 - k) * 2 ^ (8 * (k % 8)) : Nat) : Int) := by simp
        rw [e, M64.wrapN _ (by omega)]
      have hor2 : bits .or .u64 (limb (bv bs n k) (k / 8) : Int) ((bs (n - 1 - k) : Int) * 2 ^ (8 * (k % 8))) = ((limb (bv bs n k) (k / 8) + bs (n - 1 - k) * 2 ^ (8 * (k % 8)) : Nat) : Int) := by
        rw [← hor]
        congr 1
      have HOR := hideP hor2
      clear hor hor2
      generalize limb (bv bs n k) (k / 8) = lv at *
      generalize bs (n - 1 - k) = dg at *
      generalize n - 1 - k = ix at *
      generalize k / 8 = q at *
      generalize 8 * (k % 8) = sh at *
      generalize k % 8 = r at *
      clear hg hb hk hlt hN hV hL h3 h3' hp h60 hm hd hix hne
      go_wp2_with fail
      go_region
      go_wp2_with fail
      refine ⟨⟨k + 1, HKS.out, by go_num, ?_, HB.out.drew.set _ _⟩, by have := HKS.out; simp [intOf]; omega⟩
      rw [HOR.out]
      exact H3.out
    · have hkn : k = n := by omega
      have hnl : ¬ (k : Int) < n := by omega
      rw [hkn] at hg
      have H3 := hideP hg
      have HB := hideP hb
      have HDx := hideP ((hb.same _ (show w.heap.size ≠ w.heap.size + 1 by omega)).trans HD.out)
      clear hg hb hk hlt hkn
      go_wp2_with fail
      refine HK4.out _ _ ?_
      refine endPairQ (fun _ _ h => h) rfl rfl rfl (by decide) (by decide) (by show 38 < 39; decide) (by show 3 < 39; decide) rfl under rfl (info _) (one _) (rangeOf H3.out) (by have h1 := thereOf HDx.out; rw [cs_size] at h1 ⊢; exact h1) ?_
      intro wS hBut
      exact ⟨rfl, HBW.out.trans ((HB.out.below.mono (by omega)).trans hBut.below)⟩

end Go.Proofs.Ytiekipkmfopdoaa.W4
