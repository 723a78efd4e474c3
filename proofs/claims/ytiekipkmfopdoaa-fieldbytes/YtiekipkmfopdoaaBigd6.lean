/-
  The document's Big and Bytes, of 6 words; a number's words as a list.
-/
import Derived.Test.YtiekipkmfopdoaaByt
import Derived.Test.YtiekipkmfopdoaaEqw6
namespace Go.Proofs.Ytiekipkmfopdoaa.W6
open Go.RowKit Go.Shelf

set_option maxHeartbeats 2000000 in
set_option maxRecDepth 100000 in
theorem rbig_long {ao : Option Addr} {n c : Nat} (hn : 8 * 6 < n) (hm : n ≤ 140737488355328) (w : World) : Calls Try.prog 60 #[.slice ao n c, .int .i64 (6 : Int)] w fun r w' => (∃ g, r = .returned (.tuple #[.slice (some ⟨g, 0, none⟩) 6 6, .int .i64 2]) ∧ w'.heap[g]? = some (.cells (cs (limb 0)) 23 (0, 0))) ∧ Below w.heap.size w w' := by
  have hmk := make_row' w
  have g1 : (8 * 6 : Int) < (n : Int) := by omega
  have e1 : IntKind.i64.wrap (8 * 6 : Int) = 8 * 6 := by rw [IntKind.wrap_i64]; omega
  unfold cs at hmk
  clear hn hm
  simp only [Int.reduceMul] at g1 e1
  go_enter Try.func60, Try.ntmps60
  go_wp2
  go_ret2
  refine ⟨⟨_, rfl, ?_⟩, ?_⟩
  · rw [cs_congr (g := fun _ => 0) (fun j _ => by simp [limb])]
    exact heap_new _ _
  · exact (Below.refl _ _).alloc (Nat.le_refl _) _

set_option maxHeartbeats 2000000 in
set_option maxRecDepth 100000 in
theorem rbig_any {ao : Option Addr} {n c : Nat} {bs : Nat → Nat} (hn : n ≤ 8 * 6) (w : World) (h : BS w ao n c bs) : Calls Try.prog 60 #[.slice ao n c, .int .i64 (6 : Int)] w fun r w' => (∃ g, r = .returned (.tuple #[.slice (some ⟨g, 0, none⟩) 6 6, .int .i64 0]) ∧ w'.heap[g]? = some (.cells (cs (limb (bv bs n n))) 23 (0, 0))) ∧ Below w.heap.size w w' := by
  have hmk := make_row' w
  have g1 : ¬ (8 * 6 : Int) < (n : Int) := by omega
  have e1 : IntKind.i64.wrap (8 * 6 : Int) = 8 * 6 := by rw [IntKind.wrap_i64]; omega
  have HS := hideP h
  have HL := hideP hn
  have e0 : IntKind.i64.wrap ((n : Int) - 1) = (n : Int) - 1 := by rw [IntKind.wrap_i64]; omega
  clear h hn
  unfold cs at hmk
  simp only [Int.reduceMul] at g1 e1
  go_enter Try.func60, Try.ntmps60
  go_wp2_with fail
  refine at_world (fun W0 hW0 => ?_)
  have hG : W0.heap[w.heap.size]? = some (.cells (cs (fun _ => 0)) 23 (0, 0)) := by
    rw [hW0]
    exact heap_new _ _
  have HBW : Hid (Below w.heap.size w W0) := by
    show Below _ _ _
    rw [hW0]
    repeat first | exact Below.refl _ _ | (refine Below.alloc ?_ (by simp <;> omega) _)
  have HG := hideP hG
  clear hW0 hG hmk g1 e1
  go_loopw [19] (fun i wr => ∃ k : Nat, k ≤ n ∧ i = .int .i64 k ∧ wr.heap[w.heap.size]? = some (.cells (cs (limb (bv bs n k))) 23 (0, 0)) ∧ But w.heap.size W0 wr) (fun i _ => n - (intOf i).toNat)
  case atStart => exact ⟨0, Nat.zero_le _, rfl, by rw [bv, cs_congr (g := fun _ => 0) (fun j _ => by simp [limb])]; exact HG.out, But.refl _ _⟩
  case round =>
    obtain ⟨k, hk, rfl, hg, hb⟩ := hrel
    by_cases hlt : k < n
    · have hL := HL.out
      have hq : k / 8 < 6 := by omega
      have hV := bv_lt HS.out.lt n k
      have hd := HS.out.lt (n - 1 - k)
      have cg := blk_cell hg (get _ hq)
      have fr : ∀ o, wr.frozen? ⟨w.heap.size, o, none⟩ = false := fun o => blk_free hg
      have hor := or_byte (limb (bv bs n k) (k / 8)) (bs (n - 1 - k)) (8 * (k % 8)) (limb_low_byte hV) hd (by omega)
      have hN := limb_add_byte (bv bs n k) (bs (n - 1 - k)) k
      have h3 := blk_set (o := k / 8) hg (.int .u64 ((limb (bv bs n k) (k / 8) + bs (n - 1 - k) * 2 ^ (8 * (k % 8)) : Nat) : Int))
      rw [set _ _ hq, cs_congr (g := limb (bv bs n (k + 1))) (fun j _ => by
        rw [bv, hN j hV hd]
        by_cases h1 : j = k / 8
        · rw [if_pos h1, if_pos h1, h1]
        · rw [if_neg h1, if_neg h1])] at h3
      have h3' : (wr.drew.setCell ⟨w.heap.size, k / 8, none⟩ (.int .u64 ((limb (bv bs n k) (k / 8) + bs (n - 1 - k) * 2 ^ (8 * (k % 8)) : Nat) : Int))).heap[w.heap.size]? = some (.cells (cs (limb (bv bs n (k + 1)))) 23 (0, 0)) := h3
      have H3 := hideP h3'
      have HB := hideP hb
      have HKS : Hid (k + 1 ≤ n) := hlt
      obtain ⟨ad, rfl, hix⟩ := ((HS.out.moved HBW.out).cell (n - 1 - k) (by omega))
      have hne : (ad.add (n - 1 - k)).block ≠ w.heap.size := by
        have := (HS.out.cell (n - 1 - k) (by omega))
        obtain ⟨ad', e', hc'⟩ := this
        cases e'
        have := World.block_lt_of_cell? w _ hc'
        omega
      have hix2 : wr.cell? (ad.add (n - 1 - k)) = some (.int .u8 (bs (n - 1 - k))) := by
        rw [← hix]
        simp only [World.cell?, hb.same _ hne]
      have hlt' : (k : Int) < n := by omega
      have i1 : ((n - 1 - k : Nat) : Int) < n := by omega
      have e1 : IntKind.i64.wrap ((n : Int) - 1 - (k : Int)) = ((n - 1 - k : Nat) : Int) := by rw [IntKind.wrap_i64]; omega
      have e4 : IntKind.i64.wrap ((k : Int) + 1) = (k : Int) + 1 := by rw [IntKind.wrap_i64]; omega
      have d1 : ((k : Int)).tdiv 8 = ((k / 8 : Nat) : Int) := by rw [Int.tdiv_eq_ediv_of_nonneg (by omega)]; omega
      have d1' : IntKind.i64.wrap ((k / 8 : Nat) : Int) = ((k / 8 : Nat) : Int) := by rw [IntKind.wrap_i64]; omega
      have d2 : ((k : Int)).tmod 8 = ((k % 8 : Nat) : Int) := by rw [Int.tmod_eq_emod_of_nonneg (by omega)]; omega
      have d2' : IntKind.i64.wrap ((k % 8 : Nat) : Int) = ((k % 8 : Nat) : Int) := by rw [IntKind.wrap_i64]; omega
      have d3 : IntKind.i64.wrap (8 * ((k % 8 : Nat) : Int)) = ((8 * (k % 8) : Nat) : Int) := by rw [IntKind.wrap_i64]; omega
      have d4 : IntKind.u64.wrap ((8 * (k % 8) : Nat) : Int) = ((8 * (k % 8) : Nat) : Int) := by rw [IntKind.wrap_u64]; omega
      have d5 : IntKind.u64.wrap ((bs (n - 1 - k) : Nat) : Int) = ((bs (n - 1 - k) : Nat) : Int) := by rw [IntKind.wrap_u64]; omega
      have g1 : ((k / 8 : Nat) : Int) < 6 := by omega
      have g2 : ((8 * (k % 8) : Nat) : Int) < 64 := by omega
      have hp : 2 ^ (8 * (k % 8)) ≤ 2 ^ 56 := Nat.pow_le_pow_right (by decide) (by omega)
      have h60 : (2 : Nat) ^ 56 = 72057594037927936 := by decide
      have hm := Nat.mul_le_mul_right (2 ^ (8 * (k % 8))) (show bs (n - 1 - k) ≤ 255 by omega)
      have hwd : IntKind.u64.wrap ((bs (n - 1 - k) : Int) * 2 ^ (8 * (k % 8))) = ((bs (n - 1 - k) * 2 ^ (8 * (k % 8)) : Nat) : Int) := by
        have e : ((bs (n - 1 - k) : Int) * 2 ^ (8 * (k % 8))) = ((bs (n - 1 - k) * 2 ^ (8 * (k % 8)) : Nat) : Int) := by simp
        rw [e, M64.wrapN _ (by omega)]
      have hor2 : bits .or .u64 (limb (bv bs n k) (k / 8) : Int) ((bs (n - 1 - k) : Int) * 2 ^ (8 * (k % 8))) = ((limb (bv bs n k) (k / 8) + bs (n - 1 - k) * 2 ^ (8 * (k % 8)) : Nat) : Int) := by
        rw [← hor]
        congr 1
      have HOR := hideP hor2
      clear hor hor2
      generalize limb (bv bs n k) (k / 8) = lv at *
      generalize bs (n - 1 - k) = dg at *
      generalize n - 1 - k = ix at *
      generalize k / 8 = q at *
      generalize 8 * (k % 8) = sh at *
      generalize k % 8 = r at *
      clear hg hb hk hlt hN hV hL h3 h3' hp h60 hm hd hix hne
      go_wp2_with fail
      go_region
      go_wp2_with fail
      refine ⟨⟨k + 1, HKS.out, by go_num, ?_, HB.out.drew.set _ _⟩, by have := HKS.out; simp [intOf]; omega⟩
      rw [HOR.out]
      exact H3.out
    · have hkn : k = n := by omega
      have hnl : ¬ (k : Int) < n := by omega
      rw [hkn] at hg
      have H3 := hideP hg
      have HB := hideP hb
      clear hg hb hk hlt hkn
      go_wp2
      go_ret2
      exact ⟨⟨_, rfl, H3.out⟩, HBW.out.trans HB.out.below⟩

/-- A list of a number's words. -/
structure UW (w : World) (v : Value) (f : Nat → Nat) : Prop where
  ex : ∃ g c, v = .slice (some ⟨g, 0, none⟩) 6 c ∧ g < w.heap.size ∧ ∀ j, j < 6 → w.cell? ⟨g, j, none⟩ = some (.int .u64 (f j))

theorem UW.moved {w w' : World} {v : Value} {f : Nat → Nat} (h : UW w v f) (hb : Below w.heap.size w w') : UW w' v f := by
  obtain ⟨g, c, e, hg, hc⟩ := h.ex
  exact ⟨g, c, e, Nat.lt_of_lt_of_le hg hb.size, fun j hj => (hb.cell (p := ⟨g, j, none⟩) hg).trans (hc j hj)⟩

set_option maxHeartbeats 2000000 in
set_option maxRecDepth 100000 in
theorem rbytes_any (X : Nat) (w : World) (v : Value) (h : UW w v (limb X)) : Calls Try.prog 63 #[v] w fun r w' => (∃ g, r = .returned (.slice (some ⟨g, 0, none⟩) 48 48) ∧ w'.heap[g]? = some (.cells (cb 48 (fun j => byt X (48 - 1 - j))) 5 (0, 0))) ∧ Below w.heap.size w w' := by
  obtain ⟨gv, cv, rfl, hgv, hcv⟩ := h.ex
  have hmk : (Instr.makeSlice 62 (.int .i64 (48 : Int)) (.int .i64 (48 : Int))).run Try.prog w = .ok (.slice (some ⟨w.heap.size, 0, none⟩) 48 48) (w.alloc (.cells (cb 48 (fun _ => 0)) 5)) := make_bytes w 48 (by decide)
  have HC := hideP hcv
  clear h hcv
  go_enter Try.func63, Try.ntmps63
  go_wp2_with fail
  refine at_world (fun W0 hW0 => ?_)
  have hG : W0.heap[w.heap.size]? = some (.cells (cb 48 (fun _ => 0)) 5 (0, 0)) := by
    rw [hW0]
    exact heap_new _ _
  have HBW : Hid (Below w.heap.size w W0) := by
    show Below _ _ _
    rw [hW0]
    repeat first | exact Below.refl _ _ | (refine Below.alloc ?_ (by simp <;> omega) _)
  have HG := hideP hG
  clear hW0 hG hmk
  go_loopw [13] (fun i wr => ∃ k : Nat, k ≤ 48 ∧ i = .int .i64 k ∧ wr.heap[w.heap.size]? = some (.cells (cb 48 (fun j => if 48 - k ≤ j then byt X (48 - 1 - j) else 0)) 5 (0, 0)) ∧ But w.heap.size W0 wr) (fun i _ => 48 - (intOf i).toNat)
  case atStart => exact ⟨0, Nat.zero_le _, rfl, by rw [cb_congr (g := fun _ => 0) (fun j hj => by rw [if_neg (by omega)])]; exact HG.out, But.refl _ _⟩
  case round =>
    obtain ⟨k, hk, rfl, hg, hb⟩ := hrel
    by_cases hlt : k < 48
    · have hq : k / 8 < 6 := by omega
      have ca : wr.cell? ⟨gv, k / 8, none⟩ = some (.int .u64 (limb X (k / 8))) := by
        rw [hb.cell (show gv ≠ w.heap.size by omega), HBW.out.cell (p := ⟨gv, k / 8, none⟩) hgv]
        exact HC.out _ hq
      have cg := blk_cell hg (cb_get _ (show 48 - 1 - k < 48 by omega))
      have fr : ∀ o, wr.frozen? ⟨w.heap.size, o, none⟩ = false := fun o => blk_free hg
      have h3 := blk_set (o := 48 - 1 - k) hg (.int .u8 ((byt X k : Nat) : Int))
      rw [cb_set, cb_congr (g := fun j => if 48 - (k + 1) ≤ j then byt X (48 - 1 - j) else 0) (fun j hj => by
        by_cases h1 : j = 48 - 1 - k
        · rw [if_pos h1, if_pos (by omega), h1]
          congr 1
          omega
        · rw [if_neg h1]
          by_cases h2 : 48 - k ≤ j
          · rw [if_pos h2, if_pos (by omega)]
          · rw [if_neg h2, if_neg (by omega)])] at h3
      have HBT : Hid ((limb X (k / 8) : Int) / 2 ^ (8 * (k % 8)) % 256 = (byt X k : Int)) := by
        show _ = _
        unfold byt
        simp
      have H3 := hideP h3
      have HB := hideP hb
      have HKS : Hid (k + 1 ≤ 48) := hlt
      have hlt' : (k : Int) < 48 := by omega
      have e1 : IntKind.i64.wrap ((48 : Int) - 1 - (k : Int)) = ((48 - 1 - k : Nat) : Int) := by rw [IntKind.wrap_i64]; omega
      have e4 : IntKind.i64.wrap ((k : Int) + 1) = (k : Int) + 1 := by rw [IntKind.wrap_i64]; omega
      have d1 : ((k : Int)).tdiv 8 = ((k / 8 : Nat) : Int) := by rw [Int.tdiv_eq_ediv_of_nonneg (by omega)]; omega
      have d1' : IntKind.i64.wrap ((k / 8 : Nat) : Int) = ((k / 8 : Nat) : Int) := by rw [IntKind.wrap_i64]; omega
      have d2 : ((k : Int)).tmod 8 = ((k % 8 : Nat) : Int) := by rw [Int.tmod_eq_emod_of_nonneg (by omega)]; omega
      have d2' : IntKind.i64.wrap ((k % 8 : Nat) : Int) = ((k % 8 : Nat) : Int) := by rw [IntKind.wrap_i64]; omega
      have d3 : IntKind.i64.wrap (8 * ((k % 8 : Nat) : Int)) = ((8 * (k % 8) : Nat) : Int) := by rw [IntKind.wrap_i64]; omega
      have d4 : IntKind.u64.wrap ((8 * (k % 8) : Nat) : Int) = ((8 * (k % 8) : Nat) : Int) := by rw [IntKind.wrap_u64]; omega
      have g1 : ((k / 8 : Nat) : Int) < 6 := by omega
      have g2 : ((8 * (k % 8) : Nat) : Int) < 64 := by omega
      have g3 : ((48 - 1 - k : Nat) : Int) < 48 := by omega
      simp only [Int.reduceSub, Nat.reduceSub] at e1 g3 cg H3
      generalize limb X (k / 8) = lv at *
      generalize byt X k = bk at *
      generalize 8 * (k % 8) = sh at *
      generalize k / 8 = q at *
      generalize k % 8 = r at *
      clear hg hb hk hlt h3 
      go_wp2_with fail
      refine ⟨⟨k + 1, HKS.out, by go_num, ?_, HB.out.set _ _⟩, by have := HKS.out; simp [intOf]; omega⟩
      rw [HBT.out]
      exact H3.out
    · have hkn : k = 48 := by omega
      have hnl : ¬ (k : Int) < 48 := by omega
      rw [hkn, cb_congr (g := fun j => byt X (48 - 1 - j)) (fun j hj => by rw [if_pos (by omega)])] at hg
      have H3 := hideP hg
      have HB := hideP hb
      clear hg hb hk hlt hkn
      go_wp2
      go_ret
      exact ⟨⟨_, rfl, H3.out⟩, HBW.out.trans HB.out.below⟩

end Go.Proofs.Ytiekipkmfopdoaa.W6
