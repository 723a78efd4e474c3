/-
  The document's powers of words.
-/
import Derived.Test.YtpnijncoldihfaaPowersC24
import Derived.Test.YtpnijncoldihfaaPowersC25
import Derived.Test.YtpnijncoldihfaaPowersC22
namespace Go.Proofs.Ytpnijncoldihfaa
open Go.RowKit Go.Shelf

/-- Where a power has come to. -/
structure EJ (w wr : World) (O Lb A B V : Nat) : Prop where
  x : wr.heap[w.heap.size]? = some (.cells (c4 (limb A)) 23 (0, 0))
  r : wr.heap[w.heap.size + 1 + 1]? = some (.cells (c4 (fun _ => 0)) 23 (0, 0))
  o : wr.heap[O]? = some (.cells (c4 (limb V)) 23 (0, 0))
  l : wr.heap[Lb]? = some (.cells (c17 (dg B)) 76 (0, 0))
  ho : w.heap.size + 1 + 1 < O
  hl : O < Lb
  b : Below w.heap.size w wr

theorem EJ.call {w wr w' : World} {O l A B V : Nat} (I : EJ w wr O l A B V) (h : Below wr.heap.size wr w') : EJ w w' O l A B V :=
  ⟨(h.block _ (lt_of_block I.x)).trans I.x, (h.block _ (lt_of_block I.r)).trans I.r, (h.block _ (lt_of_block I.o)).trans I.o, (h.block _ (lt_of_block I.l)).trans I.l, I.ho, I.hl, I.b.trans (h.mono I.b.size)⟩

theorem EJ.put {w wr : World} {O l A B V : Nat} (I : EJ w wr O l A B V) (V' : Nat) : EJ w (wr.setCells O 0 (c4 (limb V')).toList) O l A B V' := by
  have h := But.sets (c4 (limb V')).toList 0 (But.refl O wr)
  have ho := blk_sets (c4 (limb V')).toList 0 I.o
  rw [putAll4] at ho
  have h1 := I.ho
  have h2 := I.hl
  exact ⟨(h.same _ (by omega)).trans I.x, (h.same _ (by omega)).trans I.r, ho, (h.same _ (by omega)).trans I.l, h1, h2, I.b.trans (h.below.mono (by omega))⟩

theorem pow_bit (X Y n : Nat) : X ^ (Y / 2 ^ n) = X ^ (Y / 2 ^ (n + 1)) * X ^ (Y / 2 ^ (n + 1)) * (if bt Y n = 1 then X else 1) := by
  have e : Y / 2 ^ n = Y / 2 ^ (n + 1) + Y / 2 ^ (n + 1) + bt Y n := by
    have h : Y / 2 ^ (n + 1) = Y / 2 ^ n / 2 := by rw [Nat.pow_succ, Nat.div_div_eq_div_mul]
    unfold bt
    rw [h]
    omega
  rw [e, Nat.pow_add, Nat.pow_add]
  have hb := bt_le Y n
  congr 1
  by_cases h : bt Y n = 1
  · rw [if_pos h, h, Nat.pow_one]
  · rw [if_neg h, show bt Y n = 0 by omega, Nat.pow_zero]

set_option maxHeartbeats 4000000 in
set_option maxRecDepth 100000 in
theorem refExp_any (X Y : Nat) (w : World) : Calls Try.prog 46 #[wv X, wv Y] w fun e w' => e = .returned (wv (X ^ (Y % M256))) ∧ Below w.heap.size w w' := by
  have c1 := fun W => refOf_any 1 (by omega) W
  have c2 := fun W => fromWord_any Y W
  have hYl : Y % M256 < 2 ^ 256 := Nat.lt_of_lt_of_le (Nat.mod_lt _ M256_pos) (by decide)
  have HYl := hideP hYl
  clear hYl
  generalize Y % M256 = B at *
  generalize hres : wv (X ^ B) = res
  have HRES := hideP hres
  clear hres
  obtain ⟨y0, y1, y2, y3, hy⟩ := wv_form Y
  have hone : wv 1 = .agg #[.int .u64 1, .int .u64 0, .int .u64 0, .int .u64 0] := rfl
  rw [hy] at c2 ⊢
  rw [hone] at c1
  rw [wv_c4 X]
  have C1 := hideP c1
  have C2 := hideP c2
  clear c1 c2 hy hone
  generalize hcx : c4 (limb X) = cx
  have HCX := hideP hcx
  clear hcx
  go_enter Try.func46, Try.ntmps46
  go_wp2_with fail
  refine at_world_q (fun W0 hW0 => ?_)
  have HBx : Hid (W0.heap[w.heap.size]? = some (.cells (c4 (limb X)) 23 (0, 0))) := by
    rw [hW0, HCX.out]; show _ = _; simp only [World.alloc, Array.getElem?_push, Array.size_push]; simp [Nat.add_assoc]
  have HBy : Hid (W0.heap[w.heap.size + 1]? = some (.cells #[.int .u64 y0, .int .u64 y1, .int .u64 y2, .int .u64 y3] 23 (0, 0))) := by
    rw [hW0]; show _ = _; simp only [World.alloc, Array.getElem?_push, Array.size_push]; simp
  have HBr : Hid (W0.heap[w.heap.size + 1 + 1]? = some (.cells (c4 (fun _ => 0)) 23 (0, 0))) := by
    rw [hW0, ← zero4]; show _ = _; simp only [World.alloc, Array.getElem?_push, Array.size_push]; simp
  have HBW : Hid (Below w.heap.size w W0) := by
    rw [hW0]
    show Below _ _ _
    repeat first | exact Below.refl _ _ | (refine Below.alloc ?_ (by simp <;> omega) _)
  clear hW0
  refine (C1.out _).mono ?_
  rintro e W1 ⟨rfl, hb⟩
  replace HBx := hideP ((hb.block _ (lt_of_block HBx.out)).trans HBx.out)
  replace HBy := hideP ((hb.block _ (lt_of_block HBy.out)).trans HBy.out)
  replace HBr := hideP ((hb.block _ (lt_of_block HBr.out)).trans HBr.out)
  replace HBW := hideP (HBW.out.trans (hb.mono HBW.out.size))
  clear hb C1
  obtain ⟨cy0, cy1, cy2, cy3⟩ := cells4 HBy.out
  have hly := lt_of_block HBy.out
  go_wp2_with fail
  refine at_world_q (fun W2 hW2 => ?_)
  have HO : Hid (W2.heap[W1.heap.size]? = some (.cells (c4 (limb 1)) 23 (0, 0))) := by
    rw [hW2]; exact heap_new _ _
  replace HBx : Hid (W2.heap[w.heap.size]? = some (.cells (c4 (limb X)) 23 (0, 0))) := by
    rw [hW2]; exact (heap_old _ _ (lt_of_block HBx.out)).trans HBx.out
  have HLR := hideP (lt_of_block HBr.out)
  replace HBr : Hid (W2.heap[w.heap.size + 1 + 1]? = some (.cells (c4 (fun _ => 0)) 23 (0, 0))) := by
    rw [hW2]; exact (heap_old _ _ (lt_of_block HBr.out)).trans HBr.out
  have HBW2 : Hid (Below w.heap.size w W2) := by
    rw [hW2]; exact HBW.out.alloc HBW.out.size _
  clear hW2 cy0 cy1 cy2 cy3 hly HBy HBW
  refine (C2.out _).mono ?_
  rintro e W3 ⟨rfl, hb⟩
  replace HBx := hideP ((hb.block _ (lt_of_block HBx.out)).trans HBx.out)
  replace HBr := hideP ((hb.block _ (lt_of_block HBr.out)).trans HBr.out)
  replace HO := hideP ((hb.block _ (lt_of_block HO.out)).trans HO.out)
  replace HBW2 := hideP (HBW2.out.trans (hb.mono HBW2.out.size))
  clear hb C2
  generalize hO : W1.heap.size = O at *
  clear hO
  have HN := hideP (heap_new W3 (.cells (c17 (fun _ => 0)) 76 (0, 0)))
  rw [← zero17] at HN
  go_wp2_with (refine wpList_store_mid rfl 76 _ _ rfl W3.heap.size 0 (c17 (dg B)) rfl rfl (there17 (g := fun _ => 0) HN.out) size76 (oneCell17 _) ?_; refine Hid.out ?_)
  refine hideP ?_
  have HE : Hid (EJ w ((W3.alloc (.cells #[.int .u64 0, .int .u64 0, .int .u64 0, .int .u64 0, .int .u64 0, .int .u64 0, .int .u64 0, .int .u64 0, .int .u64 0, .int .u64 0, .int .u64 0, .int .u64 0, .int .u64 0, .int .u64 0, .int .u64 0, .int .u64 0, .int .u64 0] 76 (0, 0))).setCells W3.heap.size 0 (c17 (dg B)).toList) O W3.heap.size X B (X ^ (B / 2 ^ 256))) := by
    have h := But.sets (c17 (dg B)).toList 0 (But.refl W3.heap.size (W3.alloc (.cells #[.int .u64 0, .int .u64 0, .int .u64 0, .int .u64 0, .int .u64 0, .int .u64 0, .int .u64 0, .int .u64 0, .int .u64 0, .int .u64 0, .int .u64 0, .int .u64 0, .int .u64 0, .int .u64 0, .int .u64 0, .int .u64 0, .int .u64 0] 76 (0, 0))))
    have hl := blk_sets (c17 (dg B)).toList 0 (show (W3.alloc (.cells #[.int .u64 0, .int .u64 0, .int .u64 0, .int .u64 0, .int .u64 0, .int .u64 0, .int .u64 0, .int .u64 0, .int .u64 0, .int .u64 0, .int .u64 0, .int .u64 0, .int .u64 0, .int .u64 0, .int .u64 0, .int .u64 0, .int .u64 0] 76 (0, 0))).heap[W3.heap.size]? = some (.cells (c17 (fun _ => 0)) 76 (0, 0)) from HN.out)
    rw [putAll17] at hl
    have p1 := lt_of_block HBx.out
    have p2 := lt_of_block HBr.out
    have p3 := lt_of_block HO.out
    have p4 := HLR.out
    refine ⟨(h.same _ (by omega)).trans ((heap_old _ _ p1).trans HBx.out), (h.same _ (by omega)).trans ((heap_old _ _ p2).trans HBr.out), ?_, hl, p4, p3, (HBW2.out.alloc HBW2.out.size _).trans (h.below.mono HBW2.out.size)⟩
    rw [Nat.div_eq_of_lt HYl.out, Nat.pow_zero]
    exact (h.same _ (by omega)).trans ((heap_old _ _ p3).trans HO.out)
  clear HN HBx HBr HO HBW2 HLR
  (try simp only [put_none])
  generalize (W3.alloc (.cells #[.int .u64 0, .int .u64 0, .int .u64 0, .int .u64 0, .int .u64 0, .int .u64 0, .int .u64 0, .int .u64 0, .int .u64 0, .int .u64 0, .int .u64 0, .int .u64 0, .int .u64 0, .int .u64 0, .int .u64 0, .int .u64 0, .int .u64 0] 76 (0, 0))).setCells W3.heap.size 0 (c17 (dg B)).toList = W4 at HE ⊢
  generalize W3.heap.size = l at HE ⊢
  generalize lv B = lB
  go_wp2_with fail
  rename_i Q' K hK
  have HK := hideP hK
  clear hK
  go_loopw [7] (fun i wr => ∃ (n : Nat), n ≤ 256 ∧ i = .int .i64 ((n : Int) - 1) ∧ EJ w wr O l X B (X ^ (B / 2 ^ n))) (fun i _ => (intOf i + 1).toNat)
  case atStart => exact ⟨256, Nat.le_refl _, rfl, HE.out⟩
  case round =>
    obtain ⟨n, hn, rfl, I⟩ := hrel
    have HI := hideP I
    clear I HE
    cases n with
    | zero =>
      have e0 : ((0 : Nat) : Int) - 1 = -1 := rfl
      have g0 : ¬ (-1 : Int) ≥ 0 := by decide
      have g1 : ¬ (0 : Int) ≤ -1 := by decide
      rw [e0]
      have h0 := HI.out
      rw [Nat.pow_zero, Nat.div_one] at h0
      have HZ := hideP h0
      clear hn h0 e0 HI
      go_wp2_with fail
      refine HK.out _ _ ?_
      refine endRow (C := c4 (limb (X ^ B))) rfl rfl rfl (by decide) (by show 25 < 26; decide) rfl under23 rfl size23 (oneCell4 _) (rangeOf HZ.out.o) (there4 HZ.out.r) ?_
      intro wS h
      exact ⟨by rw [← HRES.out, wv_c4], HZ.out.b.trans (h.below.mono (by omega))⟩
    | succ n =>
      have e0 : ((n + 1 : Nat) : Int) - 1 = (n : Int) := by omega
      rw [e0]
      have g0 : (n : Int) ≥ 0 := by omega
      have e4 : IntKind.i64.wrap ((n : Int) - 1) = (n : Int) - 1 := by rw [IntKind.wrap_i64]; omega
      have HN := hideP hn
      have c3 := fun W => refMul_any (X ^ (B / 2 ^ (n + 1))) (X ^ (B / 2 ^ (n + 1))) W
      have c4' := fun W => bit_any B n (by omega) W
      have c5 := fun W => refMul_any (X ^ (B / 2 ^ (n + 1)) * X ^ (B / 2 ^ (n + 1))) X W
      have hpb := pow_bit X B n
      have hble := bt_le B n
      have HPB := hideP hpb
      generalize hV : X ^ (B / 2 ^ (n + 1)) = V at c3 c5 HPB HI
      clear hV hpb
      simp only [wv_c4] at c3 c5
      unfold lv at c4'
      have C3 := hideP c3
      have C5 := hideP c5
      clear c3 c5 hn e0
      have lo := rangeOf HI.out.o
      go_wp2_with (refine wpList_load_mid rfl 23 _ rfl (O) 0 rfl (c4 (limb (V))).toList _ lo under23 rfl size23 ?_)
      refine (C3.out _).mono ?_
      rintro e w1 ⟨rfl, hb⟩
      have HI1 := hideP (HI.out.call hb)
      clear hb lo HI C3
      go_wp2_with (refine wpList_store_mid rfl 23 _ _ rfl (O) 0 (c4 (limb (V * V))) rfl rfl (there4 HI1.out.o) size23 (oneCell4 _) ?_; refine Hid.out ?_)
      refine hideP ?_
      have HI2 := hideP (HI1.out.put (V * V))
      clear HI1
      (try simp only [put_none])
      generalize w1.setCells O 0 (c4 (limb (V * V))).toList = w2 at HI2 ⊢
      have ll := range17 HI2.out.l
      by_cases hb1 : bt B n = 1
      · rw [hb1] at c4'
        have C4 := hideP c4'
        have HF : Hid (X ^ (B / 2 ^ n) = V * V * X) := by
          have h := HPB.out
          rw [if_pos hb1] at h
          exact h
        clear c4' hb1 hble HPB
        go_wp2_with (refine wpList_load_mid rfl 76 _ rfl l 0 rfl (c17 (dg B)).toList _ ll under76 rfl size76 ?_)
        refine (C4.out _).mono ?_
        rintro e w3 ⟨rfl, hb⟩
        have HI3 := hideP (HI2.out.call hb)
        clear hb ll HI2 C4
        have lo := rangeOf HI3.out.o
        have lx := rangeOf HI3.out.x
        go_wp2_with (first | refine wpList_load_mid rfl 23 _ rfl (O) 0 rfl (c4 (limb (V * V))).toList _ lo under23 rfl size23 ?_ | refine wpList_load_mid rfl 23 _ rfl (w.heap.size) 0 rfl (c4 (limb (X))).toList _ lx under23 rfl size23 ?_)
        refine (C5.out _).mono ?_
        rintro e w4 ⟨rfl, hb⟩
        have HI4 := hideP (HI3.out.call hb)
        clear hb lo lx HI3 C5
        go_wp2_with (refine wpList_store_mid rfl 23 _ _ rfl (O) 0 (c4 (limb (V * V * X))) rfl rfl (there4 HI4.out.o) size23 (oneCell4 _) ?_; refine Hid.out ?_)
        refine hideP ?_
        have HI5 := hideP (HI4.out.put (V * V * X))
        rw [← HF.out] at HI5
        clear HI4
        (try simp only [put_none])
        rw [← HF.out]
        generalize w4.setCells O 0 (c4 (limb (X ^ (B / 2 ^ n)))).toList = w5 at HI5 ⊢
        go_wp2_with fail
        refine ⟨⟨n, by have := HN.out; omega, rfl, HI5.out⟩, by simp [intOf]⟩
      · rw [show bt B n = 0 by omega] at c4'
        have C4 := hideP c4'
        have HF : Hid (X ^ (B / 2 ^ n) = V * V) := by
          have h := HPB.out
          rw [if_neg hb1, Nat.mul_one] at h
          exact h
        clear c4' hb1 hble HPB C5
        go_wp2_with (refine wpList_load_mid rfl 76 _ rfl l 0 rfl (c17 (dg B)).toList _ ll under76 rfl size76 ?_)
        refine (C4.out _).mono ?_
        rintro e w3 ⟨rfl, hb⟩
        have HI3 := hideP (HI2.out.call hb)
        rw [← HF.out] at HI3
        clear hb ll HI2 C4
        go_wp2_with fail
        refine ⟨⟨n, by have := HN.out; omega, rfl, HI3.out⟩, by simp [intOf]⟩

end Go.Proofs.Ytpnijncoldihfaa
