/-
  Sums of elements.
-/
import Derived.Test.YtiekipkmfopdoaaEl4
namespace Go.Proofs.Ytiekipkmfopdoaa.W4
open Go.RowKit Go.Shelf

/-- Where a sum and the sum less the modulus have come to. -/
structure AI (W wr : World) (L : Nat) (x y md gs gl : Nat → Nat) (k c b : Nat) : Prop where
  lts : ∀ j, gs j < 18446744073709551616
  ltl : ∀ j, gl j < 18446744073709551616
  sum : val x k + val y k = val gs k + 18446744073709551616 ^ k * c
  less : val gs k + 18446744073709551616 ^ k * b = val gl k + val md k
  c : c ≤ 1
  b : b ≤ 1
  cellS : wr.heap[L]? = some (.cells (cs gs) 24 (0, 0))
  cellL : wr.heap[L + 1]? = some (.cells (cs gl) 24 (0, 0))
  below : Below L W wr

theorem AI.put {W wr w1 w2 : World} {L : Nat} {x y md gs gl : Nat → Nat} {k c b s c' d b' : Nat} (I : AI W wr L x y md gs gl k c b) (hk : k < 4) (hs : s < 18446744073709551616) (hd : d < 18446744073709551616) (hc : c' ≤ 1) (hb : b' ≤ 1)
    (e1 : x k + y k + c = s + 18446744073709551616 * c') (e2 : s + 18446744073709551616 * b' = d + md k + b) (h1 : w1 = wr.drew.setCell ⟨L, k, none⟩ (.int .u64 s)) (h2 : w2 = w1.drew.setCell ⟨L + 1, k, none⟩ (.int .u64 d)) :
    AI W w2 L x y md (fun i => if i = k then s else gs i) (fun i => if i = k then d else gl i) (k + 1) c' b' := by
  have v1 : val (fun j => if j = k then s else gs j) k = val gs k := val_congr k (fun j hj => by rw [if_neg (by omega)])
  have v2 : val (fun j => if j = k then d else gl j) k = val gl k := val_congr k (fun j hj => by rw [if_neg (by omega)])
  have hS1 : w1.heap[L]? = some (.cells (cs (fun i => if i = k then s else gs i)) 24 (0, 0)) := by
    have h3 : wr.drew.heap[L]? = some (.cells (cs gs) 24 (0, 0)) := I.cellS
    have := blk_set (o := k) h3 (.int .u64 s)
    rw [set gs s hk] at this
    rw [h1]; exact this
  have hL1 : w1.heap[L + 1]? = some (.cells (cs gl) 24 (0, 0)) := by
    rw [h1]
    exact (Below.heap_setCell _ _ _ _ (by show L + 1 ≠ L; omega)).trans I.cellL
  refine ⟨fun j => ?_, fun j => ?_, ?_, ?_, hc, hb, ?_, ?_, ?_⟩
  · split
    · exact hs
    · exact I.lts j
  · split
    · exact hd
    · exact I.ltl j
  · show val x k + x k * 18446744073709551616 ^ k + (val y k + y k * 18446744073709551616 ^ k) = val (fun j => if j = k then s else gs j) k + (if k = k then s else gs k) * 18446744073709551616 ^ k + 18446744073709551616 ^ (k + 1) * c'
    rw [v1, if_pos rfl, Nat.pow_succ]
    have h2 := I.sum
    grind
  · show val (fun j => if j = k then s else gs j) k + (if k = k then s else gs k) * 18446744073709551616 ^ k + 18446744073709551616 ^ (k + 1) * b' = val (fun j => if j = k then d else gl j) k + (if k = k then d else gl k) * 18446744073709551616 ^ k + (val md k + md k * 18446744073709551616 ^ k)
    rw [v1, v2, if_pos rfl, if_pos rfl, Nat.pow_succ]
    have h2 := I.less
    grind
  · rw [h2]
    exact (Below.heap_setCell _ _ _ _ (by show L ≠ L + 1; omega)).trans hS1
  · have h3 : w1.drew.heap[L + 1]? = some (.cells (cs gl) 24 (0, 0)) := hL1
    have := blk_set (o := k) h3 (.int .u64 d)
    rw [set gl d hk] at this
    rw [h2]; exact this
  · rw [h2, h1]
    exact (((I.below.drew.setCell (p := ⟨L, k, none⟩) (Nat.le_refl _) _).drew).setCell (p := ⟨L + 1, k, none⟩) (Nat.le_succ _) _)

set_option maxHeartbeats 4000000 in
set_option maxRecDepth 100000 in
theorem add_any {p m f o r : Nat} {w : World} (hr : RingAt w p m f o r) (h : MF m f) (X Y : Nat) (hX : X < m) (hY : Y < m) :
    Calls Try.prog 83 #[.pointer (some ⟨p, 0, none⟩), wv X, wv Y] w fun e w' => e = .returned (wv ((X + Y) % m)) ∧ Below w.heap.size w w' := by
  have hp : p < w.heap.size := hr.lt
  have HR := hideP hr
  have HM := hideP h
  have HXY : Hid (X < m ∧ Y < m) := ⟨hX, hY⟩
  clear hr h hX hY
  unfold wv cs
  go_enter Try.func83, Try.ntmps83
  go_wp2_with fail
  rename_i Q' K hK
  have HK := hideP hK
  clear hK
  refine at_world (fun W0 hW0 => ?_)
  have hA : W0.heap[w.heap.size]? = some (.cells (cs (limb X)) 24 (0, 0)) := by
    rw [hW0]
    exact (heap_old _ _ (by simp <;> omega)).trans ((heap_old _ _ (by simp <;> omega)).trans ((heap_old _ _ (by simp <;> omega)).trans ((heap_old _ _ (by simp)).trans (heap_new _ _))))
  have hB : W0.heap[w.heap.size + 1]? = some (.cells (cs (limb Y)) 24 (0, 0)) := by
    rw [hW0]
    exact (heap_old _ _ (by simp <;> omega)).trans ((heap_old _ _ (by simp <;> omega)).trans ((heap_old _ _ (by simp)).trans (heap_new1 _ _ _)))
  have hD : W0.heap[w.heap.size + 1 + 1]? = some (.cells (cs (fun _ => 0)) 24 (0, 0)) := by
    rw [hW0]
    exact (heap_old _ _ (by simp <;> omega)).trans ((heap_old _ _ (by simp)).trans (heap_new2 _ _ _ _))
  have hL : W0.heap[w.heap.size + 1 + 1 + 1]? = some (.cells (cs (fun _ => 0)) 24 (0, 0)) := by
    rw [hW0]
    exact (heap_old _ _ (by simp)).trans (heap_new3 _ _ _ _ _)
  have hL2 : W0.heap[w.heap.size + 1 + 1 + 1 + 1]? = some (.cells (cs (fun _ => 0)) 24 (0, 0)) := by
    rw [hW0]
    have := heap_alloc_new ((((w.alloc (.cells #[.int .u64 (limb X 0), .int .u64 (limb X 1), .int .u64 (limb X 2), .int .u64 (limb X 3)] 24 (0, 0))).alloc (.cells #[.int .u64 (limb Y 0), .int .u64 (limb Y 1), .int .u64 (limb Y 2), .int .u64 (limb Y 3)] 24 (0, 0))).alloc (.cells #[.int .u64 0, .int .u64 0, .int .u64 0, .int .u64 0] 24 (0, 0))).alloc (.cells #[.int .u64 0, .int .u64 0, .int .u64 0, .int .u64 0] 24 (0, 0))) (.cells #[.int .u64 0, .int .u64 0, .int .u64 0, .int .u64 0] 24 (0, 0))
    simp only [World.size_alloc] at this
    exact this
  have HBW : Hid (Below w.heap.size w W0) := by
    show Below _ _ _
    rw [hW0]
    repeat first | exact Below.refl _ _ | (refine Below.alloc ?_ (by simp <;> omega) _)
  clear hW0
  have HR0 := hideP (HR.out.belowN hp HBW.out)
  have HI0 : Hid (AI W0 W0 (w.heap.size + 1 + 1 + 1) (limb X) (limb Y) (limb m) (fun _ => 0) (fun _ => 0) 0 0 0) := ⟨fun _ => by decide, fun _ => by decide, by simp [val], by simp [val], by omega, by omega, hL, hL2, Below.refl _ _⟩
  have HA := hideP hA
  have HB := hideP hB
  have HD := hideP hD
  clear hA hB hD hL hL2 HR
  have nA : w.heap.size < w.heap.size + 1 + 1 + 1 := by omega
  have nB : w.heap.size + 1 < w.heap.size + 1 + 1 + 1 := by omega
  have nD : w.heap.size + 1 + 1 < w.heap.size + 1 + 1 + 1 := by omega
  have nP : p < w.heap.size + 1 + 1 + 1 := by omega
  have nW : w.heap.size ≤ w.heap.size + 1 + 1 + 1 := by omega
  generalize w.heap.size + 1 + 1 + 1 = L at *
  go_loopw [9, 10, 14] (fun c b i wr => ∃ (k cv bv : Nat) (gs gl : Nat → Nat), k ≤ 4 ∧ i = .int .i64 k ∧ c = .int .u64 cv ∧ b = .int .u64 bv ∧ AI W0 wr L (limb X) (limb Y) (limb m) gs gl k cv bv) (fun _ _ i _ => 4 - (intOf i).toNat)
  case atStart => exact ⟨0, 0, 0, fun _ => 0, fun _ => 0, Nat.zero_le _, rfl, rfl, rfl, HI0.out⟩
  case round =>
    obtain ⟨k, cv, bv, gs, gl, hk, rfl, rfl, rfl, I⟩ := hrel
    have HI := hideP I
    clear I
    by_cases hlt : k < 4
    · obtain ⟨s, c', hs, hc', e1, hsa⟩ := add64_ex (limb X k) (limb Y k) cv (limb_lt _ _) (limb_lt _ _) HI.out.c
      obtain ⟨d, b', hd, hb', e2, hsb⟩ := sub64_ex s (limb m k) bv hs (limb_lt _ _) HI.out.b
      have ca := (HI.out.below.cell (p := ⟨w.heap.size, k, none⟩) nA).trans (blk_cell HA.out (get (limb X) hlt))
      have cb := (HI.out.below.cell (p := ⟨w.heap.size + 1, k, none⟩) nB).trans (blk_cell HB.out (get (limb Y) hlt))
      have cm := (HI.out.below.cell (p := ⟨p, k, none⟩) nP).trans (HR0.out.limbAt hlt)
      have fr : ∀ o, wr.frozen? ⟨L, o, none⟩ = false := fun o => blk_free HI.out.cellS
      have cd := blk_cell HI.out.cellS (get gs hlt)
      have hlt' : (k : Int) < 4 := by omega
      have e4 : IntKind.i64.wrap ((k : Int) + 1) = (k : Int) + 1 := by rw [IntKind.wrap_i64]; omega
      have HKS : Hid (k + 1 ≤ 4) := hlt
      have HLT := hideP hlt
      have HE : Hid (s < 18446744073709551616 ∧ d < 18446744073709551616 ∧ c' ≤ 1 ∧ b' ≤ 1 ∧ limb X k + limb Y k + cv = s + 18446744073709551616 * c' ∧ s + 18446744073709551616 * b' = d + limb m k + bv) := ⟨hs, hd, hc', hb', e1, e2⟩
      clear e1 e2 hs hd hc' hb' hk hlt
      go_wp2_with fail
      go_region
      go_wp2_with fail
      refine at_world (fun w1 hw1 => ?_)
      have hS1 : w1.heap[L]? = some (.cells (cs (fun i => if i = k then s else gs i)) 24 (0, 0)) := by
        have h3 : wr.drew.heap[L]? = some (.cells (cs gs) 24 (0, 0)) := HI.out.cellS
        have := blk_set (o := k) h3 (.int .u64 s)
        rw [set gs s HLT.out] at this
        rw [hw1]; exact this
      have hL1 : w1.heap[L + 1]? = some (.cells (cs gl) 24 (0, 0)) := by
        rw [hw1]
        exact (Below.heap_setCell _ _ _ _ (by show L + 1 ≠ L; omega)).trans HI.out.cellL
      have hP1 : w1.cell? ⟨p, k, none⟩ = some (.int .u64 (limb m k)) := by
        rw [hw1]
        exact ((HI.out.below.drew.setCell (p := ⟨L, k, none⟩) (Nat.le_refl _) _).cell (p := ⟨p, k, none⟩) nP).trans (HR0.out.limbAt HLT.out)
      clear ca cb cm fr cd
      have cS := blk_cell hS1 (get _ HLT.out)
      rw [if_pos rfl] at cS
      have cL := blk_cell hL1 (get gl HLT.out)
      have fr : ∀ o, w1.frozen? ⟨L + 1, o, none⟩ = false := fun o => blk_free hL1
      have HW1 := hideP hw1
      clear hS1 hL1 hw1
      go_region
      go_wp2_with fail
      obtain ⟨q1, q2, q3, q4, q5, q6⟩ := HE.out
      have HN := HI.out.put HLT.out q1 q2 q3 q4 q5 q6 HW1.out rfl
      refine ⟨⟨k + 1, c', b', _, _, HKS.out, by go_num, rfl, rfl, HN⟩, by have := HKS.out; simp [intOf]; omega⟩
    · have hkn : k = 4 := by omega
      have hnl : ¬ (k : Int) < 4 := by omega
      have HJ : Hid (AI W0 wr L (limb X) (limb Y) (limb m) gs gl 4 cv bv) := hkn ▸ HI.out
      clear hk hlt hkn HI
      have hs := HJ.out.sum
      have hl := HJ.out.less
      have hXm := HXY.out.1
      have hYm := HXY.out.2
      have hmR := HM.out.lt
      rw [val_limbs (by omega), val_limbs (by omega), ← R_eq] at hs
      rw [val_limbs hmR, ← R_eq] at hl
      have hS := val_ltR (fun j _ => HJ.out.lts j)
      have hLL := val_ltR (fun j _ => HJ.out.ltl j)
      have hred := red_mod (Z := val gs 4) (m := m) (c := cv) hS hmR (by omega)
      rw [← hs] at hred
      have hl1 : bv = less1 (val gs 4) m ∧ val gl 4 = val gs 4 + R * less1 (val gs 4) m - m := by
        have hb1 := HJ.out.b
        have hbv : bv = 0 ∨ bv = 1 := by omega
        unfold less1
        rcases hbv with rfl | rfl
        · rw [if_neg (by omega)]; omega
        · rw [if_pos (by omega)]; omega
      have HRES : Hid (wv ((X + Y) % m) = if cv = 0 ∧ bv = 1 then .agg (cs gs) else .agg (cs gl)) := by
        show _ = _
        rw [hred, ← hl1.1, wv_val (fun j _ => HJ.out.lts j), wv_val (fun j _ => HJ.out.ltl j), hl1.2, ← hl1.1]
        split <;> rfl
      have hcv := HJ.out.c
      have hbv := HJ.out.b
      clear hs hl hXm hYm hmR hS hLL hred hl1
      have HD3 := hideP ((HJ.out.below.block _ nD).trans HD.out)
      have HSS := hideP HJ.out.cellS
      have HLL := hideP HJ.out.cellL
      have HBS := hideP (HBW.out.trans (HJ.out.below.mono nW))
      rw [wv_lit] at HRES
      go_wp2_with fail
      refine HK.out _ _ ?_
      refine wp_seqH (fun K1 HK1 => ?_)
      refine wp_seqH (fun K2 HK2 => ?_)
      by_cases hc0 : cv = 0
      · subst hc0
        have hbb : bv = 0 ∨ bv = 1 := by omega
        rcases hbb with rfl | rfl
        · have HX2 := hideP (HRES.out.trans (if_neg (by decide)))
          clear HRES
          go_wp2_with fail
          refine HK2.out _ _ ?_
          refine wp_cond_false rfl (wp_skip ?_)
          refine HK1.out _ _ ?_
          refine endRowQ (fun _ _ h => h) rfl rfl rfl (by decide) (by show 54 < 55; decide) rfl under rfl (info _) (one _) (rangeOf HLL.out) (there_cs HD3.out _) ?_
          intro wS hBut
          exact ⟨congrArg _ HX2.out.symm, HBS.out.trans (hBut.below.mono (by omega))⟩
        · have HX2 := hideP (HRES.out.trans (if_pos ⟨rfl, rfl⟩))
          clear HRES
          go_wp2_with fail
          refine HK2.out _ _ ?_
          refine wp_cond_true rfl ?_
          have hQ : ∀ a w, Q' .ret a w → Exit.then K1 Q' .ret a w := fun _ _ h => h
          refine endRowQ hQ rfl rfl rfl (by decide) (by show 53 < 55; decide) rfl under rfl (info _) (one _) (rangeOf HSS.out) (there_cs HD3.out _) ?_
          intro wS hBut
          exact ⟨congrArg _ HX2.out.symm, HBS.out.trans (hBut.below.mono (by omega))⟩
      · have hc1 : cv = 1 := by omega
        subst hc1
        clear hc0 hcv
        have HX2 := hideP (HRES.out.trans (if_neg (by simp)))
        clear HRES
        go_wp2_with fail
        refine HK2.out _ _ ?_
        refine wp_cond_false rfl (wp_skip ?_)
        refine HK1.out _ _ ?_
        refine endRowQ (fun _ _ h => h) rfl rfl rfl (by decide) (by show 54 < 55; decide) rfl under rfl (info _) (one _) (rangeOf HLL.out) (there_cs HD3.out _) ?_
        intro wS hBut
        exact ⟨congrArg _ HX2.out.symm, HBS.out.trans (hBut.below.mono (by omega))⟩

end Go.Proofs.Ytiekipkmfopdoaa.W4
