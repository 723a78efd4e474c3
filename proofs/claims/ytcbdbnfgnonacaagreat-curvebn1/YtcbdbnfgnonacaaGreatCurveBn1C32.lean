/-
  Doubling; small numbers, bits.
-/
import Derived.Test.YtcbdbnfgnonacaaGreatCurveBn1C31
namespace Go.Proofs.YtcbdbnfgnonacaaGreat.W6
open Go.RowKit Go.Shelf

/-- The element that stands for X. -/
def el (m X : Nat) : Nat := X * R % m

/-- A modulus and what fills. -/
structure MF (m f : Nat) : Prop where
  odd : m % 2 = 1
  lt : m < R
  ge : 3 ≤ m
  fill : (limb m 0 * f + 1) % 18446744073709551616 = 0

section
variable {m f : Nat}
theorem MF.pos (h : MF m f) : 0 < m := by have := h.ge; omega

theorem el_lt (h : MF m f) (X : Nat) : el m X < m := Nat.mod_lt _ h.pos

theorem el_ltR (h : MF m f) (X : Nat) : el m X < R := Nat.lt_trans (el_lt h X) h.lt

theorem el_uniq (h : MF m f) {P X : Nat} (hP : P < m) (e : P * R % m = X * R * R % m) : P = el m X := by
  obtain ⟨k, hk⟩ := R_two
  refine MN.uniq h.odd k hP (el_lt h X) ?_
  rw [← hk, e]
  unfold el
  rw [Nat.mod_mul_mod]

end

theorem mult_any {p m f o r : Nat} {w : World} (hr : RingAt w p m f o r) (h : MF m f) (A C : Nat) (hA : A < R) (hC : C < R) (hAC : A * C < R * m) :
    Calls Tryz.prog 160 #[.pointer (some ⟨p, 0, none⟩), wv A, wv C] w fun e w' => (∃ P : Nat, e = .returned (wv P) ∧ P < m ∧ P * R % m = A * C % m) ∧ Below w.heap.size w w' := by
  have hcall := multiply_raw p m f o r (limb A) (limb C) (limb_lt A) (limb_lt C) w hr h.lt h.pos h.fill (by rw [val_limbs hA, val_limbs hC]; exact hAC)
  rw [val_limbs hA, val_limbs hC] at hcall
  exact hcall

theorem mul_ltRm {R A C m : Nat} (hA : A < R) (hC : C < m) : A * C < R * m := by
  have h1 : A * C ≤ A * m := Nat.mul_le_mul_left _ (by omega)
  have h2 : A * m < R * m := Nat.mul_lt_mul_of_pos_right hA (by omega)
  omega

theorem mult_el {p m f o r : Nat} {w : World} (hr : RingAt w p m f o r) (h : MF m f) (X Y : Nat) :
    Calls Tryz.prog 160 #[.pointer (some ⟨p, 0, none⟩), wv (el m X), wv (el m Y)] w fun e w' => e = .returned (wv (el m (X * Y))) ∧ Below w.heap.size w w' := by
  refine (mult_any hr h (el m X) (el m Y) (el_ltR h X) (el_ltR h Y) (mul_ltRm (el_ltR h X) (el_lt h Y))).mono ?_
  rintro e w' ⟨⟨P, rfl, hP, hPR⟩, hb⟩
  refine ⟨?_, hb⟩
  rw [el_uniq h hP (X := X * Y)]
  rw [hPR]
  unfold el
  rw [← Nat.mul_mod]
  have e2 : X * R * (Y * R) = X * Y * R * R := by generalize R = Q; grind
  rw [e2]

/-- Into the ring. -/
theorem mult_in {p m f o : Nat} {w : World} (hr : RingAt w p m f o (el m R)) (h : MF m f) (A : Nat) (hA : A < R) :
    Calls Tryz.prog 160 #[.pointer (some ⟨p, 0, none⟩), wv A, wv (el m R)] w fun e w' => e = .returned (wv (el m A)) ∧ Below w.heap.size w w' := by
  refine (mult_any hr h A (el m R) hA (el_ltR h R) (mul_ltRm hA (el_lt h R))).mono ?_
  rintro e w' ⟨⟨P, rfl, hP, hPR⟩, hb⟩
  refine ⟨?_, hb⟩
  rw [el_uniq h hP (X := A)]
  rw [hPR]
  unfold el
  rw [Nat.mul_mod_mod, ← Nat.mul_assoc]

/-- A ring that Make made. -/
structure Good (w : World) (p m : Nat) : Prop where
  ex : ∃ f, MF m f ∧ RingAt w p m f (el m 1) (el m R)

theorem Good.lt {w : World} {p m : Nat} (h : Good w p m) : p < w.heap.size := by
  obtain ⟨f, h1, h2⟩ := h.ex
  exact h2.lt

set_option maxHeartbeats 400000 in
set_option maxRecDepth 100000 in
theorem isMade_at {p m f o r : Nat} {w : World} (hr : RingAt w p m f o r) : Calls Tryz.prog 242 #[.pointer (some ⟨p, 0, none⟩)] w fun e w' => e = .returned (.bool (!((limb m 0 : Int) == 0))) ∧ w = w' := by
  have c0 := hr.limbAt (show 0 < 6 by decide)
  clear hr
  go_enter Tryz.func242, Tryz.ntmps242
  go_wp2
  go_ret
  simp [bne]

theorem limb0_odd {m : Nat} (h : m % 2 = 1) : limb m 0 % 2 = 1 := by unfold limb; simp; omega

theorem isMade_good {p m f o r : Nat} {w : World} (hr : RingAt w p m f o r) (h : MF m f) : Calls Tryz.prog 242 #[.pointer (some ⟨p, 0, none⟩)] w fun e w' => e = .returned (.bool true) ∧ w = w' := by
  refine (isMade_at hr).mono ?_
  rintro e w' ⟨rfl, rfl⟩
  have := limb0_odd h.odd
  have h2 : ((limb m 0 : Int) == 0) = false := by rw [beq_eq_false_iff_ne]; omega
  exact ⟨by rw [h2]; rfl, rfl⟩

end Go.Proofs.YtcbdbnfgnonacaaGreat.W6

namespace Go.Proofs.YtcbdbnfgnonacaaGreat.W6
open Go.RowKit Go.Shelf

/-- Where a sum and the sum less the modulus have come to. -/
structure AI (W wr : World) (L : Nat) (x y md gs gl : Nat → Nat) (k c b : Nat) : Prop where
  lts : ∀ j, gs j < 18446744073709551616
  ltl : ∀ j, gl j < 18446744073709551616
  sum : val x k + val y k = val gs k + 18446744073709551616 ^ k * c
  less : val gs k + 18446744073709551616 ^ k * b = val gl k + val md k
  c : c ≤ 1
  b : b ≤ 1
  cellS : wr.heap[L]? = some (.cells (cs gs) 28 (0, 0))
  cellL : wr.heap[L + 1]? = some (.cells (cs gl) 28 (0, 0))
  below : Below L W wr

theorem AI.put {W wr w1 w2 : World} {L : Nat} {x y md gs gl : Nat → Nat} {k c b s c' d b' : Nat} (I : AI W wr L x y md gs gl k c b) (hk : k < 6) (hs : s < 18446744073709551616) (hd : d < 18446744073709551616) (hc : c' ≤ 1) (hb : b' ≤ 1)
    (e1 : x k + y k + c = s + 18446744073709551616 * c') (e2 : s + 18446744073709551616 * b' = d + md k + b) (h1 : w1 = wr.drew.setCell ⟨L, k, none⟩ (.int .u64 s)) (h2 : w2 = w1.drew.setCell ⟨L + 1, k, none⟩ (.int .u64 d)) :
    AI W w2 L x y md (fun i => if i = k then s else gs i) (fun i => if i = k then d else gl i) (k + 1) c' b' := by
  have v1 : val (fun j => if j = k then s else gs j) k = val gs k := val_congr k (fun j hj => by rw [if_neg (by omega)])
  have v2 : val (fun j => if j = k then d else gl j) k = val gl k := val_congr k (fun j hj => by rw [if_neg (by omega)])
  have hS1 : w1.heap[L]? = some (.cells (cs (fun i => if i = k then s else gs i)) 28 (0, 0)) := by
    have h3 : wr.drew.heap[L]? = some (.cells (cs gs) 28 (0, 0)) := I.cellS
    have := blk_set (o := k) h3 (.int .u64 s)
    rw [set gs s hk] at this
    rw [h1]; exact this
  have hL1 : w1.heap[L + 1]? = some (.cells (cs gl) 28 (0, 0)) := by
    rw [h1]
    exact (Below.heap_setCell _ _ _ _ (by show L + 1 ≠ L; omega)).trans I.cellL
  refine ⟨fun j => ?_, fun j => ?_, ?_, ?_, hc, hb, ?_, ?_, ?_⟩
  · split
    · exact hs
    · exact I.lts j
  · split
    · exact hd
    · exact I.ltl j
  · show val x k + x k * 18446744073709551616 ^ k + (val y k + y k * 18446744073709551616 ^ k) = val (fun j => if j = k then s else gs j) k + (if k = k then s else gs k) * 18446744073709551616 ^ k + 18446744073709551616 ^ (k + 1) * c'
    rw [v1, if_pos rfl, Nat.pow_succ]
    have h2 := I.sum
    grind
  · show val (fun j => if j = k then s else gs j) k + (if k = k then s else gs k) * 18446744073709551616 ^ k + 18446744073709551616 ^ (k + 1) * b' = val (fun j => if j = k then d else gl j) k + (if k = k then d else gl k) * 18446744073709551616 ^ k + (val md k + md k * 18446744073709551616 ^ k)
    rw [v1, v2, if_pos rfl, if_pos rfl, Nat.pow_succ]
    have h2 := I.less
    grind
  · rw [h2]
    exact (Below.heap_setCell _ _ _ _ (by show L ≠ L + 1; omega)).trans hS1
  · have h3 : w1.drew.heap[L + 1]? = some (.cells (cs gl) 28 (0, 0)) := hL1
    have := blk_set (o := k) h3 (.int .u64 d)
    rw [set gl d hk] at this
    rw [h2]; exact this
  · rw [h2, h1]
    exact (((I.below.drew.setCell (p := ⟨L, k, none⟩) (Nat.le_refl _) _).drew).setCell (p := ⟨L + 1, k, none⟩) (Nat.le_succ _) _)

set_option maxHeartbeats 4000000 in
set_option maxRecDepth 100000 in
theorem add_any {p m f o r : Nat} {w : World} (hr : RingAt w p m f o r) (h : MF m f) (X Y : Nat) (hX : X < m) (hY : Y < m) :
    Calls Tryz.prog 224 #[.pointer (some ⟨p, 0, none⟩), wv X, wv Y] w fun e w' => e = .returned (wv ((X + Y) % m)) ∧ Below w.heap.size w w' := by
  have hp : p < w.heap.size := hr.lt
  have HR := hideP hr
  have HM := hideP h
  have HXY : Hid (X < m ∧ Y < m) := ⟨hX, hY⟩
  clear hr h hX hY
  unfold wv cs
  go_enter Tryz.func224, Tryz.ntmps224
  go_wp2_with fail
  rename_i Q' K hK
  have HK := hideP hK
  clear hK
  refine at_world (fun W0 hW0 => ?_)
  have hA : W0.heap[w.heap.size]? = some (.cells (cs (limb X)) 28 (0, 0)) := by
    rw [hW0]
    exact (heap_old _ _ (by simp <;> omega)).trans ((heap_old _ _ (by simp <;> omega)).trans ((heap_old _ _ (by simp <;> omega)).trans ((heap_old _ _ (by simp)).trans (heap_new _ _))))
  have hB : W0.heap[w.heap.size + 1]? = some (.cells (cs (limb Y)) 28 (0, 0)) := by
    rw [hW0]
    exact (heap_old _ _ (by simp <;> omega)).trans ((heap_old _ _ (by simp <;> omega)).trans ((heap_old _ _ (by simp)).trans (heap_new1 _ _ _)))
  have hD : W0.heap[w.heap.size + 1 + 1]? = some (.cells (cs (fun _ => 0)) 28 (0, 0)) := by
    rw [hW0]
    exact (heap_old _ _ (by simp <;> omega)).trans ((heap_old _ _ (by simp)).trans (heap_new2 _ _ _ _))
  have hL : W0.heap[w.heap.size + 1 + 1 + 1]? = some (.cells (cs (fun _ => 0)) 28 (0, 0)) := by
    rw [hW0]
    exact (heap_old _ _ (by simp)).trans (heap_new3 _ _ _ _ _)
  have hL2 : W0.heap[w.heap.size + 1 + 1 + 1 + 1]? = some (.cells (cs (fun _ => 0)) 28 (0, 0)) := by
    rw [hW0]
    have := heap_alloc_new ((((w.alloc (.cells #[.int .u64 (limb X 0), .int .u64 (limb X 1), .int .u64 (limb X 2), .int .u64 (limb X 3), .int .u64 (limb X 4), .int .u64 (limb X 5)] 28 (0, 0))).alloc (.cells #[.int .u64 (limb Y 0), .int .u64 (limb Y 1), .int .u64 (limb Y 2), .int .u64 (limb Y 3), .int .u64 (limb Y 4), .int .u64 (limb Y 5)] 28 (0, 0))).alloc (.cells #[.int .u64 0, .int .u64 0, .int .u64 0, .int .u64 0, .int .u64 0, .int .u64 0] 28 (0, 0))).alloc (.cells #[.int .u64 0, .int .u64 0, .int .u64 0, .int .u64 0, .int .u64 0, .int .u64 0] 28 (0, 0))) (.cells #[.int .u64 0, .int .u64 0, .int .u64 0, .int .u64 0, .int .u64 0, .int .u64 0] 28 (0, 0))
    simp only [World.size_alloc] at this
    exact this
  have HBW : Hid (Below w.heap.size w W0) := by
    show Below _ _ _
    rw [hW0]
    repeat first | exact Below.refl _ _ | (refine Below.alloc ?_ (by simp <;> omega) _)
  clear hW0
  have HR0 := hideP (HR.out.belowN hp HBW.out)
  have HI0 : Hid (AI W0 W0 (w.heap.size + 1 + 1 + 1) (limb X) (limb Y) (limb m) (fun _ => 0) (fun _ => 0) 0 0 0) := ⟨fun _ => by decide, fun _ => by decide, by simp [val], by simp [val], by omega, by omega, hL, hL2, Below.refl _ _⟩
  have HA := hideP hA
  have HB := hideP hB
  have HD := hideP hD
  clear hA hB hD hL hL2 HR
  have nA : w.heap.size < w.heap.size + 1 + 1 + 1 := by omega
  have nB : w.heap.size + 1 < w.heap.size + 1 + 1 + 1 := by omega
  have nD : w.heap.size + 1 + 1 < w.heap.size + 1 + 1 + 1 := by omega
  have nP : p < w.heap.size + 1 + 1 + 1 := by omega
  have nW : w.heap.size ≤ w.heap.size + 1 + 1 + 1 := by omega
  generalize w.heap.size + 1 + 1 + 1 = L at *
  go_loopw [9, 10, 14] (fun c b i wr => ∃ (k cv bv : Nat) (gs gl : Nat → Nat), k ≤ 6 ∧ i = .int .i64 k ∧ c = .int .u64 cv ∧ b = .int .u64 bv ∧ AI W0 wr L (limb X) (limb Y) (limb m) gs gl k cv bv) (fun _ _ i _ => 6 - (intOf i).toNat)
  case atStart => exact ⟨0, 0, 0, fun _ => 0, fun _ => 0, Nat.zero_le _, rfl, rfl, rfl, HI0.out⟩
  case round =>
    obtain ⟨k, cv, bv, gs, gl, hk, rfl, rfl, rfl, I⟩ := hrel
    have HI := hideP I
    clear I
    by_cases hlt : k < 6
    · obtain ⟨s, c', hs, hc', e1, hsa⟩ := add64_ex (limb X k) (limb Y k) cv (limb_lt _ _) (limb_lt _ _) HI.out.c
      obtain ⟨d, b', hd, hb', e2, hsb⟩ := sub64_ex s (limb m k) bv hs (limb_lt _ _) HI.out.b
      have ca := (HI.out.below.cell (p := ⟨w.heap.size, k, none⟩) nA).trans (blk_cell HA.out (get (limb X) hlt))
      have cb := (HI.out.below.cell (p := ⟨w.heap.size + 1, k, none⟩) nB).trans (blk_cell HB.out (get (limb Y) hlt))
      have cm := (HI.out.below.cell (p := ⟨p, k, none⟩) nP).trans (HR0.out.limbAt hlt)
      have fr : ∀ o, wr.frozen? ⟨L, o, none⟩ = false := fun o => blk_free HI.out.cellS
      have cd := blk_cell HI.out.cellS (get gs hlt)
      have hlt' : (k : Int) < 6 := by omega
      have e4 : IntKind.i64.wrap ((k : Int) + 1) = (k : Int) + 1 := by rw [IntKind.wrap_i64]; omega
      have HKS : Hid (k + 1 ≤ 6) := hlt
      have HLT := hideP hlt
      have HE : Hid (s < 18446744073709551616 ∧ d < 18446744073709551616 ∧ c' ≤ 1 ∧ b' ≤ 1 ∧ limb X k + limb Y k + cv = s + 18446744073709551616 * c' ∧ s + 18446744073709551616 * b' = d + limb m k + bv) := ⟨hs, hd, hc', hb', e1, e2⟩
      clear e1 e2 hs hd hc' hb' hk hlt
      go_wp2_with fail
      go_region
      go_wp2_with fail
      refine at_world (fun w1 hw1 => ?_)
      have hS1 : w1.heap[L]? = some (.cells (cs (fun i => if i = k then s else gs i)) 28 (0, 0)) := by
        have h3 : wr.drew.heap[L]? = some (.cells (cs gs) 28 (0, 0)) := HI.out.cellS
        have := blk_set (o := k) h3 (.int .u64 s)
        rw [set gs s HLT.out] at this
        rw [hw1]; exact this
      have hL1 : w1.heap[L + 1]? = some (.cells (cs gl) 28 (0, 0)) := by
        rw [hw1]
        exact (Below.heap_setCell _ _ _ _ (by show L + 1 ≠ L; omega)).trans HI.out.cellL
      have hP1 : w1.cell? ⟨p, k, none⟩ = some (.int .u64 (limb m k)) := by
        rw [hw1]
        exact ((HI.out.below.drew.setCell (p := ⟨L, k, none⟩) (Nat.le_refl _) _).cell (p := ⟨p, k, none⟩) nP).trans (HR0.out.limbAt HLT.out)
      clear ca cb cm fr cd
      have cS := blk_cell hS1 (get _ HLT.out)
      rw [if_pos rfl] at cS
      have cL := blk_cell hL1 (get gl HLT.out)
      have fr : ∀ o, w1.frozen? ⟨L + 1, o, none⟩ = false := fun o => blk_free hL1
      have HW1 := hideP hw1
      clear hS1 hL1 hw1
      go_region
      go_wp2_with fail
      obtain ⟨q1, q2, q3, q4, q5, q6⟩ := HE.out
      have HN := HI.out.put HLT.out q1 q2 q3 q4 q5 q6 HW1.out rfl
      refine ⟨⟨k + 1, c', b', _, _, HKS.out, by go_num, rfl, rfl, HN⟩, by have := HKS.out; simp [intOf]; omega⟩
    · have hkn : k = 6 := by omega
      have hnl : ¬ (k : Int) < 6 := by omega
      have HJ : Hid (AI W0 wr L (limb X) (limb Y) (limb m) gs gl 6 cv bv) := hkn ▸ HI.out
      clear hk hlt hkn HI
      have hs := HJ.out.sum
      have hl := HJ.out.less
      have hXm := HXY.out.1
      have hYm := HXY.out.2
      have hmR := HM.out.lt
      rw [val_limbs (by omega), val_limbs (by omega), ← R_eq] at hs
      rw [val_limbs hmR, ← R_eq] at hl
      have hS := val_ltR (fun j _ => HJ.out.lts j)
      have hLL := val_ltR (fun j _ => HJ.out.ltl j)
      have hred := red_mod (Z := val gs 6) (m := m) (c := cv) hS hmR (by omega)
      rw [← hs] at hred
      have hl1 : bv = less1 (val gs 6) m ∧ val gl 6 = val gs 6 + R * less1 (val gs 6) m - m := by
        have hb1 := HJ.out.b
        have hbv : bv = 0 ∨ bv = 1 := by omega
        unfold less1
        rcases hbv with rfl | rfl
        · rw [if_neg (by omega)]; omega
        · rw [if_pos (by omega)]; omega
      have HRES : Hid (wv ((X + Y) % m) = if cv = 0 ∧ bv = 1 then .agg (cs gs) else .agg (cs gl)) := by
        show _ = _
        rw [hred, ← hl1.1, wv_val (fun j _ => HJ.out.lts j), wv_val (fun j _ => HJ.out.ltl j), hl1.2, ← hl1.1]
        split <;> rfl
      have hcv := HJ.out.c
      have hbv := HJ.out.b
      clear hs hl hXm hYm hmR hS hLL hred hl1
      have HD3 := hideP ((HJ.out.below.block _ nD).trans HD.out)
      have HSS := hideP HJ.out.cellS
      have HLL := hideP HJ.out.cellL
      have HBS := hideP (HBW.out.trans (HJ.out.below.mono nW))
      rw [wv_lit] at HRES
      go_wp2_with fail
      refine HK.out _ _ ?_
      refine wp_seqH (fun K1 HK1 => ?_)
      refine wp_seqH (fun K2 HK2 => ?_)
      by_cases hc0 : cv = 0
      · subst hc0
        have hbb : bv = 0 ∨ bv = 1 := by omega
        rcases hbb with rfl | rfl
        · have HX2 := hideP (HRES.out.trans (if_neg (by decide)))
          clear HRES
          go_wp2_with fail
          refine HK2.out _ _ ?_
          refine wp_cond_false rfl (wp_skip ?_)
          refine HK1.out _ _ ?_
          refine endRowQ (fun _ _ h => h) rfl rfl rfl (by decide) (by show 54 < 55; decide) rfl under rfl (info _) (one _) (rangeOf HLL.out) (there_cs HD3.out _) ?_
          intro wS hBut
          exact ⟨congrArg _ HX2.out.symm, HBS.out.trans (hBut.below.mono (by omega))⟩
        · have HX2 := hideP (HRES.out.trans (if_pos ⟨rfl, rfl⟩))
          clear HRES
          go_wp2_with fail
          refine HK2.out _ _ ?_
          refine wp_cond_true rfl ?_
          have hQ : ∀ a w, Q' .ret a w → Exit.then K1 Q' .ret a w := fun _ _ h => h
          refine endRowQ hQ rfl rfl rfl (by decide) (by show 53 < 55; decide) rfl under rfl (info _) (one _) (rangeOf HSS.out) (there_cs HD3.out _) ?_
          intro wS hBut
          exact ⟨congrArg _ HX2.out.symm, HBS.out.trans (hBut.below.mono (by omega))⟩
      · have hc1 : cv = 1 := by omega
        subst hc1
        clear hc0 hcv
        have HX2 := hideP (HRES.out.trans (if_neg (by simp)))
        clear HRES
        go_wp2_with fail
        refine HK2.out _ _ ?_
        refine wp_cond_false rfl (wp_skip ?_)
        refine HK1.out _ _ ?_
        refine endRowQ (fun _ _ h => h) rfl rfl rfl (by decide) (by show 54 < 55; decide) rfl under rfl (info _) (one _) (rangeOf HLL.out) (there_cs HD3.out _) ?_
        intro wS hBut
        exact ⟨congrArg _ HX2.out.symm, HBS.out.trans (hBut.below.mono (by omega))⟩

end Go.Proofs.YtcbdbnfgnonacaaGreat.W6

namespace Go.Proofs.YtcbdbnfgnonacaaGreat.W6
open Go.RowKit Go.Shelf

/-- All older blocks but R0 are as they were; R0 is a box of so many limbs. -/
structure KP (W : World) (R0 : Nat) (V : World) : Prop where
  same : ∀ b, b < W.heap.size → b ≠ R0 → V.heap[b]? = W.heap[b]?
  below : Below R0 W V
  res : ∃ g : Nat → Nat, V.heap[R0]? = some (.cells (cs g) 28 (0, 0))

section
variable {W V V' : World} {R0 : Nat}
theorem KP.init {g : Nat → Nat} (h : W.heap[R0]? = some (.cells (cs g) 28 (0, 0))) : KP W R0 W.drew := ⟨fun _ _ _ => rfl, (Below.refl _ _).drew, g, h⟩

theorem KP.size (h : KP W R0 V) : W.heap.size ≤ V.heap.size := h.below.size

theorem KP.call (h : KP W R0 V) (hb : Below V.heap.size V V') : KP W R0 V' := by
  obtain ⟨g, hg⟩ := h.res
  have hlt := lt_of_block hg
  exact ⟨fun b h1 h2 => (hb.block b (Nat.lt_of_lt_of_le h1 h.size)).trans (h.same b h1 h2), h.below.trans (hb.mono (Nat.le_of_lt hlt)), g, (hb.block _ hlt).trans hg⟩

theorem KP.there (h : KP W R0 V) (g' : Nat → Nat) : V.there R0 0 (cs g').size := by
  obtain ⟨g, hg⟩ := h.res
  exact there_cs hg g'

theorem KP.put (h : KP W R0 V) (g' : Nat → Nat) : (V.setCells R0 0 (cs g').toList).heap[R0]? = some (.cells (cs g') 28 (0, 0)) := by
  obtain ⟨g, hg⟩ := h.res
  have h1 := blk_sets (cs g').toList 0 hg
  rwa [putAll_cs] at h1

theorem KP.store (h : KP W R0 V) (g' : Nat → Nat) : KP W R0 (V.setCells R0 0 (cs g').toList) := by
  have hB := But.sets (cs g').toList 0 (But.refl R0 V)
  exact ⟨fun b h1 h2 => (hB.same b h2).trans (h.same b h1 h2), h.below.trans hB.below, g', h.put g'⟩

theorem KP.ring (h : KP W R0 V) {p m f o r : Nat} (hr : RingAt W p m f o r) (hne : p ≠ R0) : RingAt V p m f o r := ⟨(h.same p hr.lt hne).trans hr.heap⟩

theorem KP.box (h : KP W R0 V) {b t : Nat} {C : Array Value} (hb : W.heap[b]? = some (.cells C t (0, 0))) (hne : b ≠ R0) : V.heap[b]? = some (.cells C t (0, 0)) := (h.same b (lt_of_block hb) hne).trans hb

end

end Go.Proofs.YtcbdbnfgnonacaaGreat.W6

namespace Go.Proofs.YtcbdbnfgnonacaaGreat.W6
open Go.RowKit Go.Shelf

theorem KP.start {W : World} {R0 : Nat} {g : Nat → Nat} (h : W.heap[R0]? = some (.cells (cs g) 28 (0, 0))) : KP W R0 W := ⟨fun _ _ _ => rfl, Below.refl _ _, g, h⟩

set_option maxHeartbeats 2000000 in
set_option maxRecDepth 100000 in
theorem double_any {p m f o r : Nat} {w : World} (hr : RingAt w p m f o r) (h : MF m f) (X T : Nat) (hX : X < m) (hT : T < 1000000) :
    Calls Tryz.prog 158 #[.pointer (some ⟨p, 0, none⟩), wv X, .int .i64 T] w fun e w' => e = .returned (wv (X * 2 ^ T % m)) ∧ Below w.heap.size w w' := by
  have hp : p < w.heap.size := hr.lt
  have HR := hideP hr
  have HM := hideP h
  have HX := hideP hX
  have HT := hideP hT
  clear hr h hX hT
  unfold wv
  have HLIT := hideP (show cs (limb X) = #[.int .u64 (limb X 0), .int .u64 (limb X 1), .int .u64 (limb X 2), .int .u64 (limb X 3), .int .u64 (limb X 4), .int .u64 (limb X 5)] from rfl)
  rw [show cs (limb X) = #[.int .u64 (limb X 0), .int .u64 (limb X 1), .int .u64 (limb X 2), .int .u64 (limb X 3), .int .u64 (limb X 4), .int .u64 (limb X 5)] from rfl]
  go_enter Tryz.func158, Tryz.ntmps158
  go_wp2_with fail
  rename_i Q' K hK
  have HK := hideP hK
  clear hK
  refine at_world (fun W0 hW0 => ?_)
  have hA : W0.heap[w.heap.size]? = some (.cells (cs (limb X)) 28 (0, 0)) := by
    rw [hW0]
    exact (heap_old _ _ (by simp)).trans (heap_new _ _)
  have hD : W0.heap[w.heap.size + 1]? = some (.cells (cs (fun _ => 0)) 28 (0, 0)) := by
    rw [hW0]
    exact heap_new1 _ _ _
  have HBW : Hid (Below w.heap.size w W0) := by
    show Below _ _ _
    rw [hW0]
    repeat first | exact Below.refl _ _ | (refine Below.alloc ?_ (by simp <;> omega) _)
  clear hW0
  have HR0 := hideP (HR.out.belowN hp HBW.out)
  have HA := hideP hA
  have HD := hideP hD
  clear hA hD HR
  go_loopw [8] (fun i wr => ∃ k : Nat, k ≤ T ∧ i = .int .i64 k ∧ wr.heap[w.heap.size]? = some (.cells (cs (limb (X * 2 ^ k % m))) 28 (0, 0)) ∧ KP W0 w.heap.size wr) (fun i _ => T - (intOf i).toNat)
  case atStart => exact ⟨0, Nat.zero_le _, rfl, by rw [Nat.pow_zero, Nat.mul_one, Nat.mod_eq_of_lt HX.out]; exact HA.out, KP.start HA.out⟩
  case round =>
    obtain ⟨k, hk, rfl, hc, hS⟩ := hrel
    have HS := hideP hS
    have HCC := hideP hc
    by_cases hlt : k < T
    · obtain ⟨q0, q1, q2, q3, q4, q5⟩ := cells hc
      have hT := HT.out
      have hlt' : (k : Int) < T := by omega
      have e4 : IntKind.i64.wrap ((k : Int) + 1) = (k : Int) + 1 := by rw [IntKind.wrap_i64]; omega
      have HKS : Hid (k + 1 ≤ T) := hlt
      have hadd := add_any (HS.out.ring HR0.out (by omega)) HM.out (X * 2 ^ k % m) (X * 2 ^ k % m) (Nat.mod_lt _ HM.out.pos) (Nat.mod_lt _ HM.out.pos)
      have e2 : (X * 2 ^ k % m + X * 2 ^ k % m) % m = X * 2 ^ (k + 1) % m := by
        rw [← Nat.add_mod, Nat.pow_succ, ← Nat.mul_assoc, Nat.mul_two]
      rw [e2] at hadd
      unfold wv at hadd
      rw [show cs (limb (X * 2 ^ k % m)) = #[.int .u64 (limb (X * 2 ^ k % m) 0), .int .u64 (limb (X * 2 ^ k % m) 1), .int .u64 (limb (X * 2 ^ k % m) 2), .int .u64 (limb (X * 2 ^ k % m) 3), .int .u64 (limb (X * 2 ^ k % m) 4), .int .u64 (limb (X * 2 ^ k % m) 5)] from rfl] at hadd
      have HADD := hideP hadd
      clear hadd e2 hS hc hlt hk hT
      go_wp2_with fail
      rename_i QA KA hKA KB hKB
      refine HADD.out.mono ?_
      rintro e w1 ⟨rfl, hb⟩
      refine hKB _ _ ?_
      have hS1 := HS.out.call hb
      refine wpList_store_mid rfl 28 (.tmp 4) (.tmp 13) rfl w.heap.size 0 (cs (limb (X * 2 ^ (k + 1) % m))) rfl rfl (hS1.there _) (info _) (one _) ?_
      refine wpList_nil ?_
      simp only [put_none]
      have hg := hS1.put (limb (X * 2 ^ (k + 1) % m))
      have hS2 := hS1.store (limb (X * 2 ^ (k + 1) % m))
      generalize World.setCells w1 w.heap.size 0 (cs (limb (X * 2 ^ (k + 1) % m))).toList = w2 at hg hS2 ⊢
      have HG := hideP hg
      have HS2 := hideP hS2
      clear hg hS2 hS1 hb hKB q0 q1 q2 q3 q4 q5
      go_wp2_with fail
      exact ⟨⟨k + 1, HKS.out, by go_num, HG.out, HS2.out⟩, by have := HKS.out; simp [intOf]; omega⟩
    · have hkn : k = T := by omega
      have hnl : ¬ (k : Int) < T := by omega
      rw [hkn] at hc
      have HCT := hideP hc
      have HDD := hideP (HS.out.box HD.out (show w.heap.size + 1 ≠ w.heap.size by omega))
      have HBS := hideP (HBW.out.trans HS.out.below)
      clear hc hS hlt hk hkn HCC
      go_wp2_with fail
      refine HK.out _ _ ?_
      refine endRowQ (fun _ _ h => h) rfl rfl rfl (by decide) (by show 15 < 16; decide) rfl under rfl (info _) (one _) (rangeOf HCT.out) (there_cs HDD.out _) ?_
      intro wS hBut
      exact ⟨rfl, HBS.out.trans (hBut.below.mono (by omega))⟩

theorem small_limbs {n : Nat} (hn : n < 18446744073709551616) : cs (limb n) = cs (fun i => if i = 0 then n else 0) := by
  refine cs_congr (fun j hj => ?_)
  unfold limb
  by_cases h : j = 0
  · subst h; simp; omega
  · rw [if_neg h, Nat.div_eq_of_lt (Nat.lt_of_lt_of_le hn (Nat.le_trans (by decide : 18446744073709551616 ≤ 18446744073709551616 ^ 1) (Nat.pow_le_pow_right (by decide) (by omega))))]

set_option maxHeartbeats 400000 in
set_option maxRecDepth 100000 in
theorem small_any (n : Nat) (hn : n < 18446744073709551616) (w : World) : Calls Tryz.prog 156 #[.int .u64 n] w fun e w' => e = .returned (wv n) ∧ Below w.heap.size w w' := by
  unfold wv
  rw [small_limbs hn]
  clear hn
  go_enter Tryz.func156, Tryz.ntmps156
  refine wp_seqH (fun K0 HK0 => ?_)
  go_wp2_with fail
  refine HK0.out _ _ ?_
  refine wp_seqH (fun K1 HK1 => ?_)
  go_wp2_with fail
  refine HK1.out _ _ ?_
  refine wp_seqH (fun K2 HK2 => ?_)
  go_wp2_with fail
  refine HK2.out _ _ ?_
  refine at_world (fun W1 hW1 => ?_)
  have hB : W1.heap[w.heap.size + 1]? = some (.cells (cs (fun i => if i = 0 then n else 0)) 28 (0, 0)) := by
    rw [hW1]
    exact heap_new1 _ _ _
  have hD : W1.heap[w.heap.size]? = some (.cells (cs (fun _ => 0)) 28 (0, 0)) := by
    rw [hW1]
    exact (heap_old _ _ (by simp)).trans (heap_new _ _)
  have hlw : Below w.heap.size w W1 := by
    rw [hW1]
    repeat first | exact Below.refl _ _ | (refine Below.alloc ?_ (by simp <;> omega) _) | (refine Below.setCell ?_ (by simp <;> omega) _)
  refine endRowQ (fun _ _ h => h) rfl rfl rfl (by decide) (by show 6 < 7; decide) rfl under rfl (info _) (one _) (rangeOf hB) (there_cs hD _) ?_
  intro wS hBut
  exact ⟨rfl, hlw.trans (hBut.below.mono (by omega))⟩

theorem bit_limbs {n : Nat} (_hn : n < 384) : cs (limb (2 ^ n)) = cs (fun i => if i = n / 64 then 2 ^ (n % 64) else 0) := by
  refine cs_congr (fun j hj => ?_)
  unfold limb
  have e : (2 : Nat) ^ n = 2 ^ (n % 64) * 18446744073709551616 ^ (n / 64) := by
    rw [show (18446744073709551616 : Nat) = 2 ^ 64 by decide, ← Nat.pow_mul, ← Nat.pow_add, Nat.mod_add_div]
  have hl : 2 ^ (n % 64) < 18446744073709551616 := Nat.lt_of_lt_of_le (Nat.pow_lt_pow_right (by decide) (Nat.mod_lt n (by decide))) (by decide : 2 ^ 64 ≤ 18446744073709551616)
  by_cases h : j = n / 64
  · subst h
    rw [if_pos rfl, e, Nat.mul_div_cancel _ (Nat.pow_pos (by decide)), Nat.mod_eq_of_lt hl]
  · rw [if_neg h]
    rcases Nat.lt_or_gt_of_ne h with h1 | h1
    · have : n / 64 = (n / 64 - j - 1) + 1 + j := by omega
      rw [e, this, Nat.pow_add _ _ j, ← Nat.mul_assoc, Nat.mul_div_cancel _ (Nat.pow_pos (by decide)), Nat.pow_succ, ← Nat.mul_assoc, Nat.mul_mod_left]
    · rw [Nat.div_eq_of_lt]
      rw [e]
      refine Nat.lt_of_lt_of_le (Nat.mul_lt_mul_of_pos_right hl (Nat.pow_pos (by decide))) ?_
      rw [Nat.mul_comm, ← Nat.pow_succ]
      exact Nat.pow_le_pow_right (by decide) h1

set_option maxHeartbeats 400000 in
set_option maxRecDepth 100000 in
theorem bit_any (n : Nat) (hn : n < 384) (w : World) : Calls Tryz.prog 159 #[.int .i64 n] w fun e w' => e = .returned (wv (2 ^ n)) ∧ Below w.heap.size w w' := by
  unfold wv
  rw [bit_limbs hn]
  have hq : n / 64 < 6 := by omega
  have HQ := hideP hq
  have e1 : ((n : Int)).tdiv 64 = ((n / 64 : Nat) : Int) := by rw [Int.tdiv_eq_ediv_of_nonneg (by omega)]; omega
  have e1' : IntKind.i64.wrap ((n / 64 : Nat) : Int) = ((n / 64 : Nat) : Int) := by rw [IntKind.wrap_i64]; omega
  have e2 : ((n : Int)).tmod 64 = ((n % 64 : Nat) : Int) := by rw [Int.tmod_eq_emod_of_nonneg (by omega)]; omega
  have e2' : IntKind.i64.wrap ((n % 64 : Nat) : Int) = ((n % 64 : Nat) : Int) := by rw [IntKind.wrap_i64]; omega
  have g1 : ((n / 64 : Nat) : Int) < 6 := by omega
  have g2 : ((n % 64 : Nat) : Int) < 64 := by omega
  have hl : 2 ^ (n % 64) < 18446744073709551616 := Nat.lt_of_lt_of_le (Nat.pow_lt_pow_right (by decide) (Nat.mod_lt n (by decide))) (by decide : 2 ^ 64 ≤ 18446744073709551616)
  have e3 : IntKind.u64.wrap ((2 : Int) ^ (n % 64)) = ((2 ^ (n % 64) : Nat) : Int) := by
    have e4 : ((2 : Int) ^ (n % 64)) = ((2 ^ (n % 64) : Nat) : Int) := by simp
    rw [e4, M64.wrapN _ hl]
  generalize 2 ^ (n % 64) = v at *
  clear hl hn hq
  generalize n / 64 = q at *
  generalize n % 64 = r at *
  go_enter Tryz.func159, Tryz.ntmps159
  refine wp_seqH (fun K0 HK0 => ?_)
  go_wp2_with fail
  refine HK0.out _ _ ?_
  refine wp_seqH (fun K1 HK1 => ?_)
  go_wp2_with fail
  refine HK1.out _ _ ?_
  refine at_world (fun W0 hW0 => ?_)
  have hB0 : W0.heap[w.heap.size + 1]? = some (.cells (cs (fun _ => 0)) 28 (0, 0)) := by
    rw [hW0]
    exact heap_new1 _ _ _
  have hD0 : W0.heap[w.heap.size]? = some (.cells (cs (fun _ => 0)) 28 (0, 0)) := by
    rw [hW0]
    exact (heap_old _ _ (by simp)).trans (heap_new _ _)
  have HLW : Hid (Below w.heap.size w W0) := by
    show Below _ _ _
    rw [hW0]
    repeat first | exact Below.refl _ _ | (refine Below.alloc ?_ (by simp <;> omega) _)
  clear hW0
  have cz := blk_cell hB0 (get _ HQ.out)
  have fr : ∀ o, W0.frozen? ⟨w.heap.size + 1, o, none⟩ = false := fun o => blk_free hB0
  have HB0 := hideP hB0
  have HD0 := hideP hD0
  clear hB0 hD0
  refine wp_seqH (fun K2 HK2 => ?_)
  go_wp2_with fail
  refine HK2.out _ _ ?_
  refine at_world (fun W1 hW1 => ?_)
  have hB : W1.heap[w.heap.size + 1]? = some (.cells (cs (fun i => if i = q then v else 0)) 28 (0, 0)) := by
    rw [hW1]
    have := blk_set (o := q) HB0.out (.int .u64 v)
    rw [set _ v HQ.out] at this
    exact this
  have hD : W1.heap[w.heap.size]? = some (.cells (cs (fun _ => 0)) 28 (0, 0)) := by
    rw [hW1]
    exact (Below.heap_setCell _ _ _ _ (by show w.heap.size ≠ w.heap.size + 1; omega)).trans HD0.out
  have hlw : Below w.heap.size w W1 := by
    rw [hW1]
    exact Below.setCell HLW.out (by simp) _
  refine endRowQ (fun _ _ h => h) rfl rfl rfl (by decide) (by show 10 < 11; decide) rfl under rfl (info _) (one _) (rangeOf hB) (there_cs hD _) ?_
  intro wS hBut
  exact ⟨rfl, hlw.trans (hBut.below.mono (by omega))⟩

set_option maxHeartbeats 1000000 in
set_option maxRecDepth 100000 in
theorem bitLength_any (m : Nat) (hm : m < R) (h0 : 0 < m) (w : World) : Calls Tryz.prog 157 #[wv m] w fun e w' => (∃ n : Nat, e = .returned (.int .i64 n) ∧ 1 ≤ n ∧ n ≤ 384 ∧ m < 2 ^ n ∧ 2 ^ (n - 1) ≤ m) ∧ Below w.heap.size w w' := by
  have HM := hideP hm
  have H0 := hideP h0
  clear hm h0
  unfold wv cs
  go_enter Tryz.func157, Tryz.ntmps157
  go_wp2_with fail
  refine at_world (fun W0 hW0 => ?_)
  have hA : W0.heap[w.heap.size]? = some (.cells (cs (limb m)) 28 (0, 0)) := by
    rw [hW0]
    exact heap_new _ _
  have HBW : Hid (Below w.heap.size w W0) := by
    show Below _ _ _
    rw [hW0]
    repeat first | exact Below.refl _ _ | (refine Below.alloc ?_ (by simp <;> omega) _)
  clear hW0
  have HA := hideP hA
  clear hA
  go_loopw [3] (fun i wr => wr = W0 ∧ ∃ k : Nat, k ≤ 6 ∧ i = .int .i64 ((k : Int) - 1) ∧ ∀ j, k ≤ j → j < 6 → limb m j = 0) (fun i _ => ((intOf i) + 1).toNat)
  case atStart => exact ⟨rfl, 6, Nat.le_refl _, rfl, fun j h1 h2 => absurd h2 (by omega)⟩
  case round =>
    obtain ⟨rfl, k, hk, rfl, hz⟩ := hrel
    by_cases hk0 : k = 0
    · exfalso
      subst hk0
      have h1 : m < 18446744073709551616 ^ 0 := top_zero_m (m := 6) (by rw [← R_eq]; exact HM.out) 6 0 (by omega) hz
      have := H0.out
      simp at h1
      omega
    · obtain ⟨j, rfl⟩ : ∃ j, k = j + 1 := ⟨k - 1, by omega⟩
      have hj : j < 6 := by omega
      have cj := blk_cell HA.out (get (limb m) hj)
      have ei : ((j + 1 : Nat) : Int) - 1 = (j : Int) := by omega
      rw [ei]
      have g1 : (j : Int) < 6 := by omega
      have g0 : (0 : Int) ≤ j := by omega
      by_cases hn : limb m j = 0
      · have hn' : ((limb m j : Nat) : Int) = 0 := by omega
        have e4 : IntKind.i64.wrap ((j : Int) - 1) = (j : Int) - 1 := by rw [IntKind.wrap_i64]; omega
        have HZ : Hid (∀ i, j ≤ i → i < 6 → limb m i = 0) := fun i h1 h2 => by
          by_cases e : i = j
          · rw [e]; exact hn
          · exact hz i (by omega) h2
        have HJ := hideP hj
        clear hz hn hk hk0 hj
        go_wp2_with fail
        exact ⟨⟨trivial, j, Nat.le_of_lt HJ.out, rfl, HZ.out⟩, by simp [intOf] <;> omega⟩
      · have hl := limb_lt m j
        obtain ⟨p1, p2⟩ := bitLen_pos (x := limb m j) (by omega) hl
        have ht : m < 18446744073709551616 ^ (j + 1) := top_zero_m (m := 6) (by rw [← R_eq]; exact HM.out) (6 - (j + 1)) (j + 1) (by omega) hz
        have HRR : Hid (1 ≤ 64 * j + Lib.bitLen (limb m j) ∧ 64 * j + Lib.bitLen (limb m j) ≤ 384 ∧ m < 2 ^ (64 * j + Lib.bitLen (limb m j)) ∧ 2 ^ (64 * j + Lib.bitLen (limb m j) - 1) ≤ m) := ⟨by omega, by omega, bits_lt ht, bits_ge hn⟩
        have HLEN := hideP (fun W => len64_any (limb m j) W hl)
        generalize Lib.bitLen (limb m j) = bl at HRR HLEN p1 p2
        have hn' : ¬ (((limb m j : Nat) : Int) = 0) := by omega
        have e1 : IntKind.i64.wrap (64 * (j : Int)) = 64 * (j : Int) := by rw [IntKind.wrap_i64]; omega
        have e2 : IntKind.i64.wrap (64 * (j : Int) + bl) = 64 * (j : Int) + bl := by rw [IntKind.wrap_i64]; omega
        clear hz hn hl ht hk hk0 hj p1 p2
        go_wp2_with (go_at_call 218; refine (HLEN.out _).mono ?_; rintro e w' ⟨rfl, rfl⟩)
        go_ret
        exact ⟨⟨64 * j + bl, by simp, HRR.out⟩, HBW.out⟩

end Go.Proofs.YtcbdbnfgnonacaaGreat.W6
