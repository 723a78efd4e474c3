/-
  A point's bytes.
-/
import Derived.Test.YtppijhcfodccfaaGreatCurveNoneC27
import Derived.Test.YtppijhcfodccfaaGreatCurveNoneC02
import Derived.Test.YtppijhcfodccfaaGreatCurveNoneC04
import Derived.Test.YtppijhcfodccfaaGreatCurveNoneC05
import Derived.Test.YtppijhcfodccfaaGreatCurveNoneC03
import Derived.Test.YtppijhcfodccfaaGreatCurveNoneC23
namespace Go.Proofs.YtppijhcfodccfaaGreat.W4
open Go.RowKit Go.Shelf

set_option maxHeartbeats 2000000 in
set_option maxRecDepth 100000 in
theorem bytes_any (X : Nat) (w : World) : Calls Tryz.prog 135 #[wv X] w fun r w' => (∃ g, r = .returned (.slice (some ⟨g, 0, none⟩) 32 32) ∧ w'.heap[g]? = some (.cells (cb 32 (fun j => byt X (32 - 1 - j))) 5 (0, 0))) ∧ Below w.heap.size w w' := by
  have hmk : (Instr.makeSlice 93 (.int .i64 (32 : Int)) (.int .i64 (32 : Int))).run Tryz.prog (w.alloc (.cells #[.int .u64 (limb X 0), .int .u64 (limb X 1), .int .u64 (limb X 2), .int .u64 (limb X 3)] 32 (0, 0))) = .ok (.slice (some ⟨w.heap.size + 1, 0, none⟩) 32 32) ((w.alloc (.cells #[.int .u64 (limb X 0), .int .u64 (limb X 1), .int .u64 (limb X 2), .int .u64 (limb X 3)] 32 (0, 0))).alloc (.cells (cb 32 (fun _ => 0)) 5)) := by
    have := make_bytes (w.alloc (.cells #[.int .u64 (limb X 0), .int .u64 (limb X 1), .int .u64 (limb X 2), .int .u64 (limb X 3)] 32 (0, 0))) 32 (by decide)
    rw [World.size_alloc] at this
    exact this
  unfold wv cs
  go_enter Tryz.func135, Tryz.ntmps135
  go_wp2_with fail
  refine at_world (fun W0 hW0 => ?_)
  have hG : W0.heap[w.heap.size + 1]? = some (.cells (cb 32 (fun _ => 0)) 5 (0, 0)) := by
    rw [hW0]
    exact heap_new1 _ _ _
  have hA : W0.heap[w.heap.size]? = some (.cells (cs (limb X)) 32 (0, 0)) := by
    rw [hW0]
    exact (heap_old _ _ (by simp)).trans (heap_new _ _)
  have HA := hideP hA
  have HBW : Hid (Below w.heap.size w W0) := by
    show Below _ _ _
    rw [hW0]
    repeat first | exact Below.refl _ _ | (refine Below.alloc ?_ (by simp <;> omega) _)
  have HG := hideP hG
  clear hW0 hG hmk hA
  go_loopw [11] (fun i wr => ∃ k : Nat, k ≤ 32 ∧ i = .int .i64 k ∧ wr.heap[w.heap.size + 1]? = some (.cells (cb 32 (fun j => if 32 - k ≤ j then byt X (32 - 1 - j) else 0)) 5 (0, 0)) ∧ But (w.heap.size + 1) W0 wr) (fun i _ => 32 - (intOf i).toNat)
  case atStart => exact ⟨0, Nat.zero_le _, rfl, by rw [cb_congr (g := fun _ => 0) (fun j hj => by rw [if_neg (by omega)])]; exact HG.out, But.refl _ _⟩
  case round =>
    obtain ⟨k, hk, rfl, hg, hb⟩ := hrel
    by_cases hlt : k < 32
    · have hq : k / 8 < 4 := by omega
      have ca : wr.cell? ⟨w.heap.size, k / 8, none⟩ = some (.int .u64 (limb X (k / 8))) := (hb.cell (show w.heap.size ≠ w.heap.size + 1 by omega)).trans (blk_cell HA.out (get (limb X) hq))
      have cg := blk_cell hg (cb_get _ (show 32 - 1 - k < 32 by omega))
      have fr : ∀ o, wr.frozen? ⟨w.heap.size + 1, o, none⟩ = false := fun o => blk_free hg
      have h3 := blk_set (o := 32 - 1 - k) hg (.int .u8 ((byt X k : Nat) : Int))
      rw [cb_set, cb_congr (g := fun j => if 32 - (k + 1) ≤ j then byt X (32 - 1 - j) else 0) (fun j hj => by
        by_cases h1 : j = 32 - 1 - k
        · rw [if_pos h1, if_pos (by omega), h1]
          congr 1
          omega
        · rw [if_neg h1]
          by_cases h2 : 32 - k ≤ j
          · rw [if_pos h2, if_pos (by omega)]
          · rw [if_neg h2, if_neg (by omega)])] at h3
      have HBT : Hid ((limb X (k / 8) : Int) / 2 ^ (8 * (k % 8)) % 256 = (byt X k : Int)) := by
        show _ = _
        unfold byt
        simp
      have H3 := hideP h3
      have HB := hideP hb
      have HKS : Hid (k + 1 ≤ 32) := hlt
      have hlt' : (k : Int) < 32 := by omega
      have e1 : IntKind.i64.wrap ((32 : Int) - 1 - (k : Int)) = ((32 - 1 - k : Nat) : Int) := by rw [IntKind.wrap_i64]; omega
      have e4 : IntKind.i64.wrap ((k : Int) + 1) = (k : Int) + 1 := by rw [IntKind.wrap_i64]; omega
      have d1 : ((k : Int)).tdiv 8 = ((k / 8 : Nat) : Int) := by rw [Int.tdiv_eq_ediv_of_nonneg (by omega)]; omega
      have d1' : IntKind.i64.wrap ((k / 8 : Nat) : Int) = ((k / 8 : Nat) : Int) := by rw [IntKind.wrap_i64]; omega
      have d2 : ((k : Int)).tmod 8 = ((k % 8 : Nat) : Int) := by rw [Int.tmod_eq_emod_of_nonneg (by omega)]; omega
      have d2' : IntKind.i64.wrap ((k % 8 : Nat) : Int) = ((k % 8 : Nat) : Int) := by rw [IntKind.wrap_i64]; omega
      have d3 : IntKind.i64.wrap (8 * ((k % 8 : Nat) : Int)) = ((8 * (k % 8) : Nat) : Int) := by rw [IntKind.wrap_i64]; omega
      have g1 : ((k / 8 : Nat) : Int) < 4 := by omega
      have g2 : ((8 * (k % 8) : Nat) : Int) < 64 := by omega
      have g3 : ((32 - 1 - k : Nat) : Int) < 32 := by omega
      simp only [Int.reduceSub, Nat.reduceSub] at e1 g3 cg H3
      generalize limb X (k / 8) = lv at *
      generalize byt X k = bk at *
      generalize 8 * (k % 8) = sh at *
      generalize k / 8 = q at *
      generalize k % 8 = r at *
      clear hg hb hk hlt h3 
      go_wp2_with fail
      refine ⟨⟨k + 1, HKS.out, by go_num, ?_, HB.out.set _ _⟩, by have := HKS.out; simp [intOf]; omega⟩
      rw [HBT.out]
      exact H3.out
    · have hkn : k = 32 := by omega
      have hnl : ¬ (k : Int) < 32 := by omega
      rw [hkn, cb_congr (g := fun j => byt X (32 - 1 - j)) (fun j hj => by rw [if_pos (by omega)])] at hg
      have H3 := hideP hg
      have HB := hideP hb
      clear hg hb hk hlt hkn
      go_wp2
      go_ret
      exact ⟨⟨_, rfl, H3.out⟩, HBW.out.trans (HB.out.below.mono (by omega))⟩

set_option maxHeartbeats 2000000 in
set_option maxRecDepth 100000 in
theorem big_any {ao : Option Addr} {n c : Nat} {bs : Nat → Nat} (hn : n ≤ 32) (w : World) (h : BS w ao n c bs) : Calls Tryz.prog 206 #[.slice ao n c] w fun r w' => r = .returned (.tuple #[wv (bv bs n n), .int .i64 0]) ∧ Below w.heap.size w w' := by
  have g1 : ¬ (32 : Int) < (n : Int) := by omega
  have e1 : IntKind.i64.wrap (32 : Int) = 32 := by rw [IntKind.wrap_i64]; omega
  have HS := hideP h
  have HL := hideP hn
  have e0 : IntKind.i64.wrap ((n : Int) - 1) = (n : Int) - 1 := by rw [IntKind.wrap_i64]; omega
  clear h hn
  go_enter Tryz.func206, Tryz.ntmps206
  refine wp_seqH (fun K0 HK0 => ?_)
  go_wp2_with fail
  refine HK0.out _ _ ?_
  refine wp_seqH (fun K1 HK1 => ?_)
  go_wp2_with fail
  refine HK1.out _ _ ?_
  refine at_world (fun W0 hW0 => ?_)
  have hD : W0.heap[w.heap.size]? = some (.cells (cs (fun _ => 0)) 32 (0, 0)) := by
    rw [hW0]
    exact (heap_old _ _ (by simp)).trans (heap_new _ _)
  have hG : W0.heap[w.heap.size + 1]? = some (.cells (cs (fun _ => 0)) 32 (0, 0)) := by
    rw [hW0]
    exact heap_new1 _ _ _
  have HBW : Hid (Below w.heap.size w W0) := by
    show Below _ _ _
    rw [hW0]
    repeat first | exact Below.refl _ _ | (refine Below.alloc ?_ (by simp <;> omega) _)
  obtain ⟨q0, q1, q2, q3⟩ := cells hG
  have HG := hideP hG
  have HD := hideP hD
  clear hW0 hG hD
  refine wp_seqH (fun K2 HK2 => ?_)
  refine wp_seqH (fun K3 HK3 => ?_)
  go_wp2_with fail
  refine HK3.out _ _ ?_
  clear q0 q1 q2 q3
  refine wp_cond_false (by show Value.bool (decide ((32 : Int) < (n : Int))) = Value.bool false; rw [decide_eq_false (by omega)]) (wp_skip ?_)
  refine HK2.out _ _ ?_
  refine wp_seqH (fun K4 HK4 => ?_)
  clear g1 e1
  go_wp2_with fail
  go_loopw [15] (fun i wr => ∃ k : Nat, k ≤ n ∧ i = .int .i64 k ∧ wr.heap[w.heap.size + 1]? = some (.cells (cs (limb (bv bs n k))) 32 (0, 0)) ∧ But (w.heap.size + 1) W0 wr) (fun i _ => n - (intOf i).toNat)
  case atStart => exact ⟨0, Nat.zero_le _, rfl, by rw [bv, cs_congr (g := fun _ => 0) (fun j _ => by simp [limb])]; exact HG.out, But.refl _ _⟩
  case round =>
    obtain ⟨k, hk, rfl, hg, hb⟩ := hrel
    by_cases hlt : k < n
    · have hL := HL.out
      have hq : k / 8 < 4 := by omega
      have hV := bv_lt HS.out.lt n k
      have hd := HS.out.lt (n - 1 - k)
      have cg := blk_cell hg (get _ hq)
      have fr : ∀ o, wr.frozen? ⟨w.heap.size + 1, o, none⟩ = false := fun o => blk_free hg
      have hor := or_byte (limb (bv bs n k) (k / 8)) (bs (n - 1 - k)) (8 * (k % 8)) (limb_low_byte hV) hd (by omega)
      have hN := limb_add_byte (bv bs n k) (bs (n - 1 - k)) k
      have h3 := blk_set (o := k / 8) hg (.int .u64 ((limb (bv bs n k) (k / 8) + bs (n - 1 - k) * 2 ^ (8 * (k % 8)) : Nat) : Int))
      rw [set _ _ hq, cs_congr (g := limb (bv bs n (k + 1))) (fun j _ => by
        rw [bv, hN j hV hd]
        by_cases h1 : j = k / 8
        · rw [if_pos h1, if_pos h1, h1]
        · rw [if_neg h1, if_neg h1])] at h3
      have h3' : (wr.drew.setCell ⟨w.heap.size + 1, k / 8, none⟩ (.int .u64 ((limb (bv bs n k) (k / 8) + bs (n - 1 - k) * 2 ^ (8 * (k % 8)) : Nat) : Int))).heap[w.heap.size + 1]? = some (.cells (cs (limb (bv bs n (k + 1)))) 32 (0, 0)) := h3
      have H3 := hideP h3'
      have HB := hideP hb
      have HKS : Hid (k + 1 ≤ n) := hlt
      obtain ⟨ad, rfl, hix⟩ := ((HS.out.moved HBW.out).cell (n - 1 - k) (by omega))
      have hne : (ad.add (n - 1 - k)).block ≠ w.heap.size + 1 := by
        have := (HS.out.cell (n - 1 - k) (by omega))
        obtain ⟨ad', e', hc'⟩ := this
        cases e'
        have := World.block_lt_of_cell? w _ hc'
        omega
      have hix2 : wr.cell? (ad.add (n - 1 - k)) = some (.int .u8 (bs (n - 1 - k))) := by
        rw [← hix]
        simp only [World.cell?, hb.same _ hne]
      have hlt' : (k : Int) < n := by omega
      have i1 : ((n - 1 - k : Nat) : Int) < n := by omega
      have e1 : IntKind.i64.wrap ((n : Int) - 1 - (k : Int)) = ((n - 1 - k : Nat) : Int) := by rw [IntKind.wrap_i64]; omega
      have e4 : IntKind.i64.wrap ((k : Int) + 1) = (k : Int) + 1 := by rw [IntKind.wrap_i64]; omega
      have d1 : ((k : Int)).tdiv 8 = ((k / 8 : Nat) : Int) := by rw [Int.tdiv_eq_ediv_of_nonneg (by omega)]; omega
      have d1' : IntKind.i64.wrap ((k / 8 : Nat) : Int) = ((k / 8 : Nat) : Int) := by rw [IntKind.wrap_i64]; omega
      have d2 : ((k : Int)).tmod 8 = ((k % 8 : Nat) : Int) := by rw [Int.tmod_eq_emod_of_nonneg (by omega)]; omega
      have d2' : IntKind.i64.wrap ((k % 8 : Nat) : Int) = ((k % 8 : Nat) : Int) := by rw [IntKind.wrap_i64]; omega
      have d3 : IntKind.i64.wrap (8 * ((k % 8 : Nat) : Int)) = ((8 * (k % 8) : Nat) : Int) := by rw [IntKind.wrap_i64]; omega
      have d5 : IntKind.u64.wrap ((bs (n - 1 - k) : Nat) : Int) = ((bs (n - 1 - k) : Nat) : Int) := by rw [IntKind.wrap_u64]; omega
      have g1 : ((k / 8 : Nat) : Int) < 4 := by omega
      have g2 : ((8 * (k % 8) : Nat) : Int) < 64 := by omega
      have hp : 2 ^ (8 * (k % 8)) ≤ 2 ^ 56 := Nat.pow_le_pow_right (by decide) (by omega)
      have h60 : (2 : Nat) ^ 56 = 72057594037927936 := by decide
      have hm := Nat.mul_le_mul_right (2 ^ (8 * (k % 8))) (show bs (n - 1 - k) ≤ 255 by omega)
      have hwd : IntKind.u64.wrap ((bs (n - 1 - k) : Int) * 2 ^ (8 * (k % 8))) = ((bs (n - 1 - k) * 2 ^ (8 * (k % 8)) : Nat) : Int) := by
        have e : ((bs (n - 1 - k) : Int) * 2 ^ (8 * (k % 8))) = ((bs (n - 1 - k) * 2 ^ (8 * (k % 8)) : Nat) : Int) := by simp
        rw [e, M64.wrapN _ (by omega)]
      have hor2 : bits .or .u64 (limb (bv bs n k) (k / 8) : Int) ((bs (n - 1 - k) : Int) * 2 ^ (8 * (k % 8))) = ((limb (bv bs n k) (k / 8) + bs (n - 1 - k) * 2 ^ (8 * (k % 8)) : Nat) : Int) := by
        rw [← hor]
        congr 1
      have HOR := hideP hor2
      clear hor hor2
      generalize limb (bv bs n k) (k / 8) = lv at *
      generalize bs (n - 1 - k) = dg at *
      generalize n - 1 - k = ix at *
      generalize k / 8 = q at *
      generalize 8 * (k % 8) = sh at *
      generalize k % 8 = r at *
      clear hg hb hk hlt hN hV hL h3 h3' hp h60 hm hd hix hne
      go_wp2_with fail
      go_region
      go_wp2_with fail
      refine ⟨⟨k + 1, HKS.out, by go_num, ?_, HB.out.drew.set _ _⟩, by have := HKS.out; simp [intOf]; omega⟩
      rw [HOR.out]
      exact H3.out
    · have hkn : k = n := by omega
      have hnl : ¬ (k : Int) < n := by omega
      rw [hkn] at hg
      have H3 := hideP hg
      have HB := hideP hb
      have HDx := hideP ((hb.same _ (show w.heap.size ≠ w.heap.size + 1 by omega)).trans HD.out)
      clear hg hb hk hlt hkn
      go_wp2_with fail
      refine HK4.out _ _ ?_
      refine endPairQ (fun _ _ h => h) rfl rfl rfl (by decide) (by decide) (by show 38 < 39; decide) (by show 3 < 39; decide) rfl under rfl (info _) (one _) (rangeOf H3.out) (by have h1 := thereOf HDx.out; rw [cs_size] at h1 ⊢; exact h1) ?_
      intro wS hBut
      exact ⟨rfl, HBW.out.trans ((HB.out.below.mono (by omega)).trans hBut.below)⟩

end Go.Proofs.YtppijhcfodccfaaGreat.W4

namespace Go.Proofs.YtppijhcfodccfaaGreat.W6
open Go.RowKit Go.Shelf

/-- Where a difference has come to. -/
structure MI (W wr : World) (D : Nat) (x y gk : Nat → Nat) (k c : Nat) : Prop where
  lt : ∀ j, gk j < 18446744073709551616
  sum : val x k + 18446744073709551616 ^ k * c = val gk k + val y k
  c : c ≤ 1
  cells : wr.heap[D]? = some (.cells (cs gk) 28 (0, 0))
  but : But D W wr

theorem MI.put {W wr : World} {D : Nat} {x y gk : Nat → Nat} {k c s c' : Nat} (I : MI W wr D x y gk k c) (hk : k < 6) (hs : s < 18446744073709551616) (hc : c' ≤ 1)
    (e : x k + 18446744073709551616 * c' = s + y k + c) :
    MI W (wr.drew.setCell ⟨D, k, none⟩ (.int .u64 s)) D x y (fun i => if i = k then s else gk i) (k + 1) c' := by
  refine ⟨fun j => ?_, ?_, hc, ?_, I.but.drew.set _ _⟩
  · split
    · exact hs
    · exact I.lt j
  · have h1 : val (fun j => if j = k then s else gk j) k = val gk k := val_congr k (fun j hj => by rw [if_neg (by omega)])
    show val x k + x k * 18446744073709551616 ^ k + 18446744073709551616 ^ (k + 1) * c' = val (fun j => if j = k then s else gk j) k + (if k = k then s else gk k) * 18446744073709551616 ^ k + (val y k + y k * 18446744073709551616 ^ k)
    rw [h1, if_pos rfl, Nat.pow_succ]
    have h2 := I.sum
    grind
  · have h3 : wr.drew.heap[D]? = some (.cells (cs gk) 28 (0, 0)) := I.cells
    have := blk_set (o := k) h3 (.int .u64 s)
    rw [set gk s hk] at this
    exact this

set_option maxHeartbeats 2000000 in
set_option maxRecDepth 100000 in
theorem minus_raw (x y : Nat → Nat) (hx : ∀ j, x j < 18446744073709551616) (hy : ∀ j, y j < 18446744073709551616) (w : World) :
    Calls Tryz.prog 223 #[.agg (cs x), .agg (cs y)] w fun e w' => ∃ (g : Nat → Nat) (c : Nat), e = .returned (.tuple #[.agg (cs g), .int .u64 c]) ∧ (∀ j, g j < 18446744073709551616) ∧ c ≤ 1 ∧
      val x 6 + R * c = val g 6 + val y 6 ∧ Below w.heap.size w w' := by
  have HX := hideP hx
  have HY := hideP hy
  clear hx hy
  unfold cs
  go_enter Tryz.func223, Tryz.ntmps223
  go_wp2_with fail
  rename_i Q' K hK
  have HK := hideP hK
  clear hK
  refine at_world (fun W0 hW0 => ?_)
  have hA : W0.heap[w.heap.size]? = some (.cells (cs x) 28 (0, 0)) := by
    rw [hW0]
    exact (heap_old _ _ (by simp <;> omega)).trans ((heap_old _ _ (by simp)).trans (heap_new _ _))
  have hB : W0.heap[w.heap.size + 1]? = some (.cells (cs y) 28 (0, 0)) := by
    rw [hW0]
    exact (heap_old _ _ (by simp)).trans (heap_new1 _ _ _)
  have hD : W0.heap[w.heap.size + 1 + 1]? = some (.cells (cs (fun _ => 0)) 28 (0, 0)) := by
    rw [hW0]
    exact heap_new2 _ _ _ _
  have HBW : Hid (Below w.heap.size w W0) := by
    show Below _ _ _
    rw [hW0]
    repeat first | exact Below.refl _ _ | (refine Below.alloc ?_ (by simp <;> omega) _)
  clear hW0
  have HI0 : Hid (MI W0 W0 (w.heap.size + 1 + 1) x y (fun _ => 0) 0 0) := ⟨fun _ => by decide, by simp [val], by omega, hD, But.refl _ _⟩
  have HA := hideP hA
  have HB := hideP hB
  clear hA hB hD
  go_loopw [5, 9] (fun c i wr => ∃ (k cv : Nat) (gk : Nat → Nat), k ≤ 6 ∧ i = .int .i64 k ∧ c = .int .u64 cv ∧ MI W0 wr (w.heap.size + 1 + 1) x y gk k cv) (fun _ i _ => 6 - (intOf i).toNat)
  case atStart => exact ⟨0, 0, fun _ => 0, Nat.zero_le _, rfl, rfl, HI0.out⟩
  case round =>
    obtain ⟨k, cv, gk, hk, rfl, rfl, I⟩ := hrel
    have HI := hideP I
    clear I
    by_cases hlt : k < 6
    · obtain ⟨s, c', hs, hc', e2, hsb⟩ := sub64_ex (x k) (y k) cv (HX.out _) (HY.out _) HI.out.c
      have ca := (HI.out.but.cell (o := k) (show w.heap.size ≠ w.heap.size + 1 + 1 by omega)).trans (blk_cell HA.out (get x hlt))
      have cb := (HI.out.but.cell (o := k) (show w.heap.size + 1 ≠ w.heap.size + 1 + 1 by omega)).trans (blk_cell HB.out (get y hlt))
      have fr : ∀ o, wr.frozen? ⟨w.heap.size + 1 + 1, o, none⟩ = false := fun o => blk_free HI.out.cells
      have cd := blk_cell HI.out.cells (get gk hlt)
      have HN := hideP (HI.out.put hlt hs hc' e2)
      have hlt' : (k : Int) < 6 := by omega
      have e4 : IntKind.i64.wrap ((k : Int) + 1) = (k : Int) + 1 := by rw [IntKind.wrap_i64]; omega
      have HKS : Hid (k + 1 ≤ 6) := hlt
      clear e2 hs hc' hk hlt
      go_wp2_with fail
      go_region
      go_wp2_with fail
      refine ⟨⟨k + 1, c', _, HKS.out, by go_num, rfl, HN.out⟩, by have := HKS.out; simp [intOf]; omega⟩
    · have hkn : k = 6 := by omega
      have hnl : ¬ (k : Int) < 6 := by omega
      have HJ : Hid (MI W0 wr (w.heap.size + 1 + 1) x y gk 6 cv) := hkn ▸ HI.out
      clear hk hlt hkn HI
      go_wp2_with fail
      refine HK.out _ _ ?_
      refine endKeepQ (fun _ _ h => h) rfl rfl rfl (by decide) (by decide) (by decide) (by decide) (by decide) (by show 26 < 28; decide) (by show 27 < 28; decide) (by show 5 < 28; decide) rfl under rfl (info _) (one _) (rangeOf HJ.out.cells) (thereOf HJ.out.cells) ?_
      intro wS hBut
      refine ⟨gk, cv, rfl, HJ.out.lt, HJ.out.c, by rw [R_eq]; exact HJ.out.sum, HBW.out.trans ((HJ.out.but.below.trans hBut.below).mono (by omega))⟩

/-- Whether one is below the other, as a limb. -/
def less1 (X Y : Nat) : Nat := if X < Y then 1 else 0

theorem minus_any (X Y : Nat) (hX : X < R) (hY : Y < R) (w : World) :
    Calls Tryz.prog 223 #[wv X, wv Y] w fun e w' => e = .returned (.tuple #[wv (X + R * less1 X Y - Y), .int .u64 (less1 X Y)]) ∧ Below w.heap.size w w' := by
  refine (minus_raw (limb X) (limb Y) (limb_lt X) (limb_lt Y) w).mono ?_
  rintro e w' ⟨g, c, rfl, hg, hc, hs, hb⟩
  refine ⟨?_, hb⟩
  rw [val_limbs hX, val_limbs hY] at hs
  have hl := val_ltR (fun j _ => hg j)
  rw [wv_val (fun j _ => hg j)]
  generalize val g 6 = Z at hs hl
  have hR : c = less1 X Y ∧ Z = X + R * less1 X Y - Y := by
    unfold less1
    have hc' : c = 0 ∨ c = 1 := by omega
    rcases hc' with rfl | rfl
    · rw [if_neg (by omega)]; omega
    · rw [if_pos (by omega)]; omega
  rw [hR.1, hR.2]

end Go.Proofs.YtppijhcfodccfaaGreat.W6

namespace Go.Proofs.YtppijhcfodccfaaGreat
open Go.RowKit Go.Shelf

/-- Two rows of bytes, one behind the other. -/
def beh (n : Nat) (f g : Nat → Nat) (j : Nat) : Nat := if j < n then f j else g (j - n)

theorem append_full {w : World} {g n : Nat} {f : Nat → Nat} {ao : Option Addr} {n2 c2 : Nat} {f2 : Nat → Nat} (ty : Nat) (hf : ∀ j, f j < 256) (hg : w.heap[g]? = some (.cells (cb n f) 5 (0, 0))) (hn : n ≤ 1000) (hn2 : n2 ≤ 1000) (h0 : 0 < n2) (h : BS w ao n2 c2 f2) :
    ∃ b cap w', (Builtin.append_ #[93, 93] ty #[.slice (some ⟨g, 0, none⟩) n n, .slice ao n2 c2]).run Tryz.prog w = .ok (.slice (some ⟨b, 0, none⟩) (n + n2) cap) w' ∧ w.heap.size ≤ b ∧ BS w' (some ⟨b, 0, none⟩) (n + n2) cap (beh n f f2) ∧ Below w.heap.size w w' := by
  obtain ⟨i0, hi, hz0, hz1, hz2⟩ := info_parts Tryz.bytes5
  have hlen : ((List.range n2).map (fun j => Value.int .u8 (f2 j))).length = n2 := by simp
  have hone : ∀ u ∈ (List.range n2).map (fun j => Value.int .u8 (f2 j)), u.oneCell' = true := by
    intro v hv
    simp only [List.mem_map] at hv
    obtain ⟨x, _, rfl⟩ := hv
    rfl
  have hT := Tryz.undB
  obtain ⟨ad, rfl, _⟩ := h.cell 0 h0
  have hs : Src Tryz.prog i0.size 93 (.slice (some ad) n2 c2) n2 ((List.range n2).map (fun j => Value.int .u8 (f2 j))) w := by
    refine Src.ofSlice w hT ad n2 c2 _ (by rw [hlen, hz1, Nat.mul_one]) (fun j v hv => ?_) hone
    simp only [List.getElem?_map, Option.map_eq_some_iff] at hv
    obtain ⟨x, hx, rfl⟩ := hv
    obtain ⟨hj, rfl⟩ := List.getElem?_eq_some_iff.1 hx
    simp only [List.length_range] at hj
    obtain ⟨ad', e, h⟩ := h.cell j hj
    cases e
    rw [List.getElem_range]
    exact h
  have hcap : Builtin.nextslicecap (n + n2) n * i0.bytes ≤ 281474976710656 := by
    rw [hz2]
    have := nextslicecap_le (need := n + n2) (old := n) (by omega)
    omega
  have hl1 : ((List.range n).map (fun j => Value.int .u8 (f j))).length = n := by simp
  have hold : (Builtin.firstCells i0.size n (.slice (some ⟨g, 0, none⟩) n n)).run Tryz.prog w.drew = .ok ((List.range n).map (fun j => Value.int .u8 (f j))).toArray w.drew := by
    refine run_firstCells_some _ _ _ _ _ _ _ (by rw [hl1, hz1, Nat.mul_one]) (fun j v hv => ?_)
    rw [add_nil]
    refine blk_cell (w := w.drew) hg ?_
    unfold cb
    rw [List.getElem?_toArray]
    exact hv
  have hr := run_append_grow_src (P := Tryz.prog) w 93 93 ty 5 i0 (.int .u8 0) hT hi hz0 (some ⟨g, 0, none⟩) n n _ hold (.slice (some ad) n2 c2) n2 _ hs (by omega) (by omega) hcap
  refine ⟨_, _, _, hr, Nat.le_refl _, ⟨fun j => ?_, ?_, ?_, fun j hj => ⟨_, rfl, ?_⟩, fun h => by cases h⟩, ((Below.refl _ w).drew).alloc (Nat.le_refl _) _⟩
  · unfold beh
    split
    · exact hf _
    · exact h.lt _
  · exact grownCap_ge w (n + n2) n 5
  · exact grownCap_le_maxLen w (n + n2) n 5 (by unfold maxLen; omega)
  · rw [add_nil]
    refine blk_cell (heap_new w.drew _) ?_
    rw [Array.getElem?_append_left (by simp; omega), List.getElem?_toArray]
    unfold beh
    by_cases hj1 : j < n
    · rw [List.getElem?_append_left (by omega), if_pos hj1]
      simp [hj1]
    · rw [List.getElem?_append_right (by omega), if_neg hj1, hl1]
      simp [show j - n < n2 by omega]

/-- append, as an operation. -/
theorem wp_appendD {op : Oper} {l : List Value} {ds : List Deferred} {w w' : World} {K : Act → World → Prop} {Q : Exit → Act → World → Prop} (x y : Operand) (d : Nat) (ho : op.op = .call { callee := .builtin .append, args := #[x, y], argTypes := #[93, 93] }) (hd : op.dst = some d) {xv yv v : Value}
    (hx : Act.eval { tmps := l.toArray, defers := ds } x = xv) (hy : Act.eval { tmps := l.toArray, defers := ds } y = yv) (hr : (Builtin.append_ #[93, 93] op.type #[xv, yv]).run Tryz.prog w = .ok v w')
    (h : K { tmps := (l.set d v).toArray, defers := ds } w') : op.wp Tryz.prog { tmps := l.toArray, defers := ds } w K Q := by
  have hk : K (Act.put { tmps := l.toArray, defers := ds } op.dst v) w' := by rw [hd, put_list]; exact h
  unfold Oper.wp
  simp [execOp, ho, resolve, invoke, builtin, hx, hy, hr, Result.andThen]
  exact hk

theorem make_bytes2 (W : World) (n : Nat) (hn : n ≤ 1000) : (Instr.makeSlice 93 (.int .i64 (n : Int)) (.int .i64 (n : Int))).run Tryz.prog W = .ok (.slice (some ⟨W.heap.size, 0, none⟩) n n) (W.alloc (.cells (cb n (fun _ => 0)) 5)) := by
  obtain ⟨i0, hi, hz, hs, hb⟩ := info_parts Tryz.bytes5
  have := run_makeSlice (P := Tryz.prog) (w := W) 93 5 i0 (.int .u8 0) Tryz.undB hi hz .i64 .i64 n n (by omega) (by omega) (by rw [hs]; omega) (by rw [hb]; omega) (by omega)
  have e : madeCells (Value.int IntKind.u8 0).cells (Int.toNat n * 1) = cb n (fun _ => 0) := by
    apply Array.ext_getElem?
    intro i
    rw [Nat.mul_one, Int.toNat_natCast]
    by_cases h : i < n
    · rw [cb_get _ h]
      simp [madeCells, h, Value.cells, Nat.mod_one]
    · rw [Array.getElem?_eq_none (by rw [size_madeCells]; omega), Array.getElem?_eq_none (by rw [cb_size]; omega)]
  rw [this, hs, e]
  simp

theorem row_BS2 {w : World} {g n : Nat} {f : Nat → Nat} (hf : ∀ j, f j < 256) (hn : n ≤ 1000) (h : w.heap[g]? = some (.cells (cb n f) 5 (0, 0))) : BS w (some ⟨g, 0, none⟩) n n f :=
  ⟨hf, Nat.le_refl _, by unfold maxLen; omega, fun j hj => ⟨_, rfl, by rw [add_nil]; exact blk_cell h (cb_get f hj)⟩, fun h => by cases h⟩

end Go.Proofs.YtppijhcfodccfaaGreat

namespace Go.Proofs.YtppijhcfodccfaaGreat
open Go.RowKit Go.Shelf

theorem wp_callG {P : Program} {op : Oper} {l : List Value} {ds : List Deferred} {w : World} {K : Act → World → Prop} {Q : Exit → Act → World → Prop} (args : Array Operand) (tys : Array TypeId) (d : Nat) {f : Nat} (ho : op.op = .call { callee := .value (.func f), args := args, argTypes := tys }) (hd : op.dst = some d) {av : Array Value}
    (hx : args.map (Act.eval { tmps := l.toArray, defers := ds }) = av) (hm : ∀ av w, (callFunc f av).run P w = .ok (.enter f av) w) {R : Ending → World → Prop} (hc : Calls P f av w R)
    (h : ∀ e w', R e w' → ∃ v, e = .returned v ∧ K { tmps := (l.set d v).toArray, defers := ds } w') : op.wp P { tmps := l.toArray, defers := ds } w K Q := by
  unfold Oper.wp execOp
  have he : (do let d ← resolve (Act.eval { tmps := l.toArray, defers := ds }) { callee := .value (.func f), args := args, argTypes := tys } op.type; invoke d.target d.args).run P w = .ok (.enter f av) w := by
    have hf : Act.eval { tmps := l.toArray, defers := ds } (.func f) = .func (.func f) #[] #[] := rfl
    simp only [resolve, invoke, Deferred.ofValue, hf, Sem.run_bind, Sem.run_pure, Result.andThen, hx]
    simp [hm]
  simp only [ho]
  rw [he]
  refine hc.mono ?_
  intro e w' hR
  obtain ⟨v, rfl, hK⟩ := h e w' hR
  show K _ _
  rw [hd, put_list]
  exact hK

end Go.Proofs.YtppijhcfodccfaaGreat

namespace Go.Proofs.YtppijhcfodccfaaGreat
open Go.RowKit Go.Shelf

theorem bytes_nv4 (x : Nat) (w : World) : Calls Tryz.prog 135 #[.agg (P4.nv x)] w fun r w' => (∃ g, r = .returned (.slice (some ⟨g, 0, none⟩) 32 32) ∧ w'.heap[g]? = some (.cells (cb 32 (fun j => byt x (31 - j))) 5 (0, 0))) ∧ Below w.heap.size w w' := by
  rw [P4.nv_eq]
  exact W4.bytes_any x w

/-- The bytes of a point of bn254's E1. -/
def wr1 (x y : Nat) (i : Bool) (j : Nat) : Nat := if i = true then 0 else beh 32 (fun j => byt x (31 - j)) (fun j => byt y (31 - j)) j

set_option maxHeartbeats 4000000 in
set_option maxRecDepth 100000 in
theorem write1_no (x y : Nat) (w : World) : Calls Tryz.prog 60 #[.agg (P4.pt x y false)] w fun e w' => (∃ b cap, e = .returned (.slice (some ⟨b, 0, none⟩) 64 cap) ∧ w.heap.size ≤ b ∧ BS w' (some ⟨b, 0, none⟩) 64 cap (wr1 x y false)) ∧ Below w.heap.size w w' := by
  go_enter Tryz.func60, Tryz.ntmps60
  refine wp_seqH (fun K0 HK0 => ?_)
  go_wp2_with fail
  refine HK0.out _ _ ?_
  clear HK0 K0
  refine at_world (fun W0 hW0 => ?_)
  have hb0 : W0.heap[w.heap.size]? = some (.cells (P4.pt x y false) 34 (0, 0)) := by
    rw [hW0]
    exact heap_new _ _
  have hbw : Below w.heap.size w W0 := by
    rw [hW0]
    exact (Below.refl _ _).alloc (Nat.le_refl _) _
  clear hW0
  have H0 := hideP hb0
  have HBW := hideP hbw
  have hlt := lt_of_block hb0
  clear hb0 hbw
  generalize w.heap.size = N at *
  refine wp_seqH (fun K2 HK2 => ?_)
  refine wp_seqH (fun K1 HK1 => ?_)
  refine wp_region_list ?_
  refine wpList_oper rfl (fun K hK => ?_)
  go_simp
  refine hK _ _ ?_
  clear hK K
  refine wpList_oper rfl (fun K hK => ?_)
  have hf := P4.pt_i H0.out
  go_simp
  refine hK _ _ ?_
  clear hK K hf
  refine wpList_nil ?_
  refine HK1.out _ _ ?_
  clear HK1 K1
  refine wp_cond_false rfl ?_
  refine wp_skip ?_
  refine HK2.out _ _ ?_
  clear HK2 K2
  refine wp_seqH (fun K1 HK1 => ?_)
  refine wp_region_heldS (S := fun V => Below W0.heap.size W0 V) (by kernel_rfl) (Below.refl _ _).drew (fun hS => ?_)
  refine wpAnyH_takeL (i := 0) (v := ?_) rfl (by kernel_rfl) (by kernel_rfl) (by kernel_rfl) (fun _ _ _ h => h) (Or.inl ⟨by kernel_rfl, ?_⟩) hS ?_
  rotate_left
  · intro V hV
    go_simp
    (try with_reducible rfl)
  simp only [put_list, List.set_cons_succ, List.set_cons_zero]
  refine wpAnyH_takeL (i := 1) (v := .agg (P4.nv x)) rfl (by kernel_rfl) (by kernel_rfl) (by kernel_rfl) (fun _ _ _ h => h) (yields_loadC (by kernel_rfl) 32 _ rfl N 0 rfl (P4.nv x) _ (fun V hV => P4.pt_x ((hV.block _ hlt).trans H0.out)) P4.underE rfl (P4.infoE (P4.nv_size _))) hS ?_
  simp only [put_list, List.set_cons_succ, List.set_cons_zero]
  refine wpAnyH_takeL (i := 3) (v := ?_) rfl (by kernel_rfl) (by kernel_rfl) (by kernel_rfl) (fun _ _ _ h => h) (Or.inl ⟨by kernel_rfl, ?_⟩) hS ?_
  rotate_left
  · intro V hV
    go_simp
    (try with_reducible rfl)
  simp only [put_list, List.set_cons_succ, List.set_cons_zero]
  refine wpAnyH_takeL (i := 4) (v := .agg (P4.nv y)) rfl (by kernel_rfl) (by kernel_rfl) (by kernel_rfl) (fun _ _ _ h => h) (yields_loadC (by kernel_rfl) 32 _ rfl N 4 rfl (P4.nv y) _ (fun V hV => P4.pt_y ((hV.block _ hlt).trans H0.out)) P4.underE rfl (P4.infoE (P4.nv_size _))) hS ?_
  simp only [put_list, List.set_cons_succ, List.set_cons_zero]
  refine wpAnyH_ready (rs := [2]) (by kernel_rfl) (by simp) (AllReadyH.cons rfl (fun K hK => ?_) AllReadyH.nil)
  refine ite_wp (by kernel_rfl) ?_
  refine wp_callG (av := #[.agg (P4.nv x)]) _ _ 8 rfl rfl (by simp only [List.map_toArray, List.map_cons, List.map_nil]; rfl) (enters_of Tryz.func135 (by kernel_rfl) rfl) (bytes_nv4 x _) ?_
  rintro e x1 ⟨⟨g1, rfl, hg1⟩, hb1⟩
  refine ⟨_, rfl, hK.out _ _ (hS.trans (hb1.mono hS.size)) (fun hS => ?_)⟩
  clear hK K hb1
  simp only [List.set_cons_succ, List.set_cons_zero]
  refine wpAnyH_ready (rs := [5]) (by kernel_rfl) (by simp) (AllReadyH.cons rfl (fun K hK => ?_) AllReadyH.nil)
  refine ite_wp (by kernel_rfl) ?_
  refine wp_callG (av := #[.agg (P4.nv y)]) _ _ 11 rfl rfl (by simp only [List.map_toArray, List.map_cons, List.map_nil]; rfl) (enters_of Tryz.func135 (by kernel_rfl) rfl) (bytes_nv4 y _) ?_
  rintro e x2 ⟨⟨g2, rfl, hg2⟩, hb2⟩
  have hg1' := (hb2.block _ (lt_of_block hg1)).trans hg1
  refine ⟨_, rfl, hK.out _ _ (hS.trans (hb2.mono hS.size)) (fun hS => ?_)⟩
  clear hK K hb2 hg1
  simp only [List.set_cons_succ, List.set_cons_zero]
  refine wpAnyH_ready (rs := [6]) (by kernel_rfl) (by simp) (AllReadyH.cons rfl (fun K hK => ?_) AllReadyH.nil)
  refine ite_wp (by kernel_rfl) ?_
  obtain ⟨b, cap, x3, hr, hbl, hBS, hb3⟩ := append_full (f := fun j => byt x (31 - j)) (f2 := fun j => byt y (31 - j)) (n := 32) (n2 := 32) (c2 := 32) 93 (fun j => byt_lt _ _) hg1' (by omega) (by omega) (by omega) (row_BS2 (fun j => byt_lt _ _) (by omega) hg2)
  refine wp_appendD (.tmp 8) (.tmp 11) 12 rfl rfl rfl rfl hr ?_
  have hsz := hS.size
  have hbl' : W0.heap.size ≤ b := by omega
  refine hK.out _ _ (hS.trans (hb3.mono hS.size)) (fun hS => ?_)
  clear hK K hb3 hr hg1' hg2
  simp only [List.set_cons_succ, List.set_cons_zero]
  refine wpAnyH_takeL (i := 7) (v := ?_) rfl (by kernel_rfl) (by kernel_rfl) (by kernel_rfl) (fun _ _ _ h => h) (Or.inl ⟨by kernel_rfl, ?_⟩) hS ?_
  rotate_left
  · intro V hV
    go_simp
    (try with_reducible rfl)
  simp only [put_list, List.set_cons_succ, List.set_cons_zero]
  refine wpAnyH_done (by kernel_rfl) ?_ _
  refine HK1.out _ _ ?_
  refine wp_ret ?_
  exact bodyPost_ret_by (results_tmp rfl _ _ _) rfl ⟨⟨b, cap, rfl, by omega, hBS⟩, HBW.out.trans (hS.mono (by omega))⟩

end Go.Proofs.YtppijhcfodccfaaGreat
