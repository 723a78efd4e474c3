/-
  The document's extending of a sign.
-/
import Derived.Test.YtpnijncoldihfaaPowersC27
import Derived.Test.YtpnijncoldihfaaPowersC32
namespace Go.Proofs.Ytpnijncoldihfaa
open Go.RowKit Go.Shelf

set_option maxHeartbeats 4000000 in
set_option maxRecDepth 100000 in
theorem refSignExtend_any (N X : Nat) (w : World) : Calls Try.prog 48 #[wv N, wv X] w fun e w' => e = .returned (wv (signN (N % M256) X)) ∧ Below w.heap.size w w' := by
  have c1 := fun W => refSmall_any N 31 (by omega) W
  obtain ⟨y0, y1, y2, y3, hy⟩ := wv_form N
  rw [hy] at c1 ⊢
  rw [wv_c4 X]
  have C1 := hideP c1
  clear c1 hy
  generalize hres : wv (signN (N % M256) X) = res
  have HRES := hideP hres
  clear hres
  generalize hcx : c4 (limb X) = cx
  have HCX := hideP hcx
  clear hcx
  go_enter Try.func48, Try.ntmps48
  go_wp2_with fail
  refine at_world_q (fun W0 hW0 => ?_)
  have HBx : Hid (W0.heap[w.heap.size + 1]? = some (.cells (c4 (limb X)) 23 (0, 0))) := by
    rw [hW0, HCX.out]; show _ = _; simp only [World.alloc, Array.getElem?_push, Array.size_push]; simp
  have HBr : Hid (W0.heap[w.heap.size + 1 + 1]? = some (.cells (c4 (fun _ => 0)) 23 (0, 0))) := by
    rw [hW0, ← zero4]; show _ = _; simp only [World.alloc, Array.getElem?_push, Array.size_push]; simp
  have HBW : Hid (Below w.heap.size w W0) := by
    rw [hW0]
    show Below _ _ _
    repeat first | exact Below.refl _ _ | (refine Below.alloc ?_ (by simp <;> omega) _)
  clear hW0
  refine (C1.out _).mono ?_
  rintro e W1 ⟨rfl, hb⟩
  replace HBx := hideP ((hb.block _ (lt_of_block HBx.out)).trans HBx.out)
  replace HBr := hideP ((hb.block _ (lt_of_block HBr.out)).trans HBr.out)
  replace HBW := hideP (HBW.out.trans (hb.mono HBW.out.size))
  clear hb C1
  unfold smallN
  by_cases hk : N % M256 < 31
  · rw [if_pos hk]
    generalize N % M256 = m at *
    have HM := hideP hk
    have d1 : ((m : Int) == 31) = false := by simp; omega
    have d2 : ¬ (m : Int) = 31 := by omega
    clear hk
    have HE : Hid (BI w (W1.alloc (.cells #[.int .u64 0, .int .u64 0, .int .u64 0, .int .u64 0] 23 (0, 0))) (w.heap.size + 1) (w.heap.size + 1 + 1) W1.heap.size X (signN m X % 2 ^ 0)) := by
      have p1 := lt_of_block HBx.out
      have p2 := lt_of_block HBr.out
      rw [Nat.pow_zero, Nat.mod_one]
      exact ⟨(heap_old _ _ p1).trans HBx.out, (heap_old _ _ p2).trans HBr.out, by rw [limb_nought, ← zero4]; exact heap_new _ _, by omega, by omega, by omega, HBW.out.size, HBW.out.alloc HBW.out.size _⟩
    clear HBx HBr HBW
    go_wp2_with fail
    generalize W1.alloc (.cells #[.int .u64 0, .int .u64 0, .int .u64 0, .int .u64 0] 23 (0, 0)) = W2 at HE ⊢
    generalize W1.heap.size = O at HE ⊢
    rename_i Q' K hK
    have HK := hideP hK
    clear hK d1 d2
    go_loopw [7] (fun i wr => ∃ (n : Nat), n ≤ 256 ∧ i = .int .i64 n ∧ BI w wr (w.heap.size + 1) (w.heap.size + 1 + 1) O X (signN m X % 2 ^ n)) (fun i _ => 256 - (intOf i).toNat)
    case atStart => exact ⟨0, Nat.zero_le _, rfl, HE.out⟩
    case round =>
      obtain ⟨n, hn, rfl, I⟩ := hrel
      have HI := hideP I
      clear I HE
      by_cases hlt : n < 256
      · have hm := HM.out
        have cB := fun W => refBit_any X (min n (8 * m + 7)) (by omega) W
        rw [← bt_sign m X n hm hlt] at cB
        have cS := fun W => setBit_any (signN m X % 2 ^ n) n (bt (signN m X) n) (Nat.mod_lt _ (Nat.pow_pos (by decide))) hlt (bt_le _ _) W
        rw [← mod_bit] at cS
        simp only [wv_c4] at cB cS
        have CB := hideP cB
        have CS := hideP cS
        have HN : Hid (n + 1 ≤ 256) := hlt
        have g1 : (n : Int) < 256 := by omega
        have e4 : IntKind.i64.wrap ((n : Int) + 1) = (n : Int) + 1 := by rw [IntKind.wrap_i64]; omega
        have e5 : IntKind.i64.wrap (8 * (m : Int)) = 8 * (m : Int) := by rw [IntKind.wrap_i64]; omega
        have e6 : IntKind.i64.wrap (8 * (m : Int) + 7) = 8 * (m : Int) + 7 := by rw [IntKind.wrap_i64]; omega
        have e7 : min (n : Int) (8 * (m : Int) + 7) = ((min n (8 * m + 7) : Nat) : Int) := by omega
        clear hlt hn cB cS hm
        generalize bt (signN m X) n = bv at *
        go_wp2_with fail
        refine at_world_t (fun W0 hW0 => ?_)
        subst hW0
        refine wp_region_heldS (S := fun V => ∃ g, BI w V (w.heap.size + 1) (w.heap.size + 1 + 1) O X g) (by kernel_rfl) ⟨_, HI.out.drew⟩ (fun hS => ?_)
        refine wpAnyH_takeL (i := 1) (v := ?_) rfl (by kernel_rfl) (by kernel_rfl) (by kernel_rfl) (fun _ _ _ h => h) (Or.inl ⟨by kernel_rfl, ?_⟩) hS ?_
        rotate_left
        · intro V hV
          go_simp
          (try with_reducible rfl)
        simp only [put_list, List.set_cons_succ, List.set_cons_zero]
        refine wpAnyH_takeL (i := 2) rfl (by kernel_rfl) (by kernel_rfl) (by kernel_rfl) (fun _ _ _ h => h) (yieldsIf_load_mid (by kernel_rfl) 23 _ rfl (w.heap.size + 1) 0 rfl (c4 (limb (X))).toList _ (fun V hV => rangeOf hV.choose_spec.x) under23 rfl size23) hS ?_
        simp only [put_list, List.set_cons_succ, List.set_cons_zero, Array.toArray_toList]
        refine wpAnyH_takeL (i := 3) (v := ?_) rfl (by kernel_rfl) (by kernel_rfl) (by kernel_rfl) (fun _ _ _ h => h) (Or.inl ⟨by kernel_rfl, ?_⟩) hS ?_
        rotate_left
        · intro V hV
          go_simp
          (try with_reducible rfl)
        simp only [put_list, List.set_cons_succ, List.set_cons_zero]
        refine wpAnyH_takeL (i := 4) (v := ?_) rfl (by kernel_rfl) (by kernel_rfl) (by kernel_rfl) (fun _ _ _ h => h) (Or.inl ⟨by kernel_rfl, ?_⟩) hS ?_
        rotate_left
        · intro V hV
          go_simp
          (try with_reducible rfl)
        simp only [put_list, List.set_cons_succ, List.set_cons_zero]
        refine wpAnyH_takeL (i := 5) (v := ?_) rfl (by kernel_rfl) (by kernel_rfl) (by kernel_rfl) (fun _ _ _ h => h) (Or.inl ⟨by kernel_rfl, ?_⟩) hS ?_
        rotate_left
        · intro V hV
          go_simp
          (try with_reducible rfl)
        simp only [put_list, List.set_cons_succ, List.set_cons_zero]
        refine wpAnyH_takeL (i := 6) (v := ?_) rfl (by kernel_rfl) (by kernel_rfl) (by kernel_rfl) (fun _ _ _ h => h) (Or.inl ⟨by kernel_rfl, ?_⟩) hS ?_
        rotate_left
        · intro V hV
          go_simp
          (try with_reducible rfl)
        simp only [put_list, List.set_cons_succ, List.set_cons_zero]
        refine wpAnyH_takeL (i := 7) (v := ?_) rfl (by kernel_rfl) (by kernel_rfl) (by kernel_rfl) (fun _ _ _ h => h) (Or.inl ⟨by kernel_rfl, ?_⟩) hS ?_
        rotate_left
        · intro V hV
          go_simp
          (try with_reducible rfl)
        simp only [put_list, List.set_cons_succ, List.set_cons_zero]
        refine wpAnyH_pair (i := 0) (j := 8) (r := 2) 17 25 (.agg (c4 (limb (signN m X % 2 ^ n)))) (.int .u64 ((bv : Nat))) (by kernel_rfl) (by kernel_rfl) (by kernel_rfl) (by decide) (by decide) (fun w' hb => ⟨_, HI.out.drew.call hb⟩) ?_ ?_ ?_
        · intro T w' K hT hb hK
          have HI' := HI.out.drew.call hb
          have HK' := hideP hK
          clear hK
          rcases hT with rfl | rfl
          · simp only [List.set_cons_succ, List.set_cons_zero] at HK' ⊢
            refine wpOp_stepT rfl (fun K' hK' => ?_)
            have HKK := hideP hK'
            clear hK'
            rw [if_pos (by kernel_rfl)]
            refine wp_load_mid 23 _ rfl O 0 rfl (c4 (limb (signN m X % 2 ^ n))).toList _ (rangeOf HI'.o) under23 rfl size23 ?_
            exact HKK.out _ _ HK'.out
          · simp only [List.set_cons_succ, List.set_cons_zero] at HK' ⊢
            refine wpOp_stepT rfl (fun K' hK' => ?_)
            have HKK := hideP hK'
            clear hK'
            rw [if_pos (by kernel_rfl)]
            refine wp_load_mid 23 _ rfl O 0 rfl (c4 (limb (signN m X % 2 ^ n))).toList _ (rangeOf HI'.o) under23 rfl size23 ?_
            exact HKK.out _ _ HK'.out
        · intro T w' K hT hb hK
          have HK' := hideP hK
          clear hK
          rcases hT with rfl | rfl
          · simp only [List.set_cons_succ, List.set_cons_zero] at HK' ⊢
            refine wpOp_stepT rfl (fun K' hK' => ?_)
            have HKK := hideP hK'
            clear hK'
            go_simp
            refine (CB.out _).mono ?_
            rintro e w3 ⟨rfl, hb'⟩
            exact HKK.out _ _ (HK'.out w3 hb')
          · simp only [List.set_cons_succ, List.set_cons_zero] at HK' ⊢
            refine wpOp_stepT rfl (fun K' hK' => ?_)
            have HKK := hideP hK'
            clear hK'
            go_simp
            refine (CB.out _).mono ?_
            rintro e w3 ⟨rfl, hb'⟩
            exact HKK.out _ _ (HK'.out w3 hb')
        intro w3 hb3
        have HI3 := hideP (HI.out.drew.call hb3)
        clear hb3 HI hS CB
        simp only [List.set_cons_succ, List.set_cons_zero]
        refine wpAnyH_ready (rs := [9]) (by kernel_rfl) (by simp) (AllReadyH.cons rfl (fun K hK => ?_) AllReadyH.nil)
        rw [if_pos (by kernel_rfl)]
        have HKX := hideP hK
        clear hK
        go_simp
        refine (CS.out _).mono ?_
        rintro e w4 ⟨rfl, hb4⟩
        have HI4 := hideP (HI3.out.call hb4)
        clear hb4 HI3
        refine HKX.out.out _ _ ⟨_, HI4.out⟩ (fun hS => ?_)
        clear HKX K hS
        refine wpAnyH_ready (rs := [10]) (by kernel_rfl) (by simp) (AllReadyH.cons rfl (fun K hK => ?_) AllReadyH.nil)
        rw [if_pos (by kernel_rfl)]
        refine wp_store_mid 23 _ _ rfl O 0 (c4 (limb (signN m X % 2 ^ (n + 1)))) rfl rfl (there4 HI4.out.o) size23 (oneCell4 _) ?_
        have HI5 := hideP (HI4.out.put (signN m X % 2 ^ (n + 1)))
        clear HI4
        generalize w4.setCells O 0 (c4 (limb (signN m X % 2 ^ (n + 1)))).toList = w5 at HI5 ⊢
        refine hK.out _ _ ⟨_, HI5.out⟩ (fun hS => ?_)
        clear hK K hS
        refine wpAnyH_done (by kernel_rfl) ?_ _
        (try simp only [put_none])
        go_wp2_with fail
        refine ⟨⟨n + 1, HN.out, by go_num, HI5.out⟩, by have := HN.out; simp [intOf]; omega⟩
      · have hk : n = 256 := by omega
        subst hk
        have g1 : ¬ ((256 : Nat) : Int) < 256 := by decide
        clear hlt hn
        go_wp2_with fail
        refine HK.out _ _ ?_
        refine endRow (C := c4 (limb (signN m X % 2 ^ 256))) rfl rfl rfl (by decide) (by show 27 < 28; decide) rfl under23 rfl size23 (oneCell4 _) (rangeOf HI.out.o) (there4 HI.out.r) ?_
        intro wS h
        exact ⟨by rw [← HRES.out, ← wv_c4, wv_two], HI.out.b.trans (h.below.mono (by omega))⟩
  · rw [if_neg hk]
    have hs : signN (N % M256) X = X := by unfold signN; rw [if_neg hk]
    rw [hs] at HRES
    clear hk hs
    have lx := rangeOf HBx.out
    go_wp2_with (first | refine wpList_load_mid rfl 23 _ rfl (w.heap.size + 1) 0 rfl (c4 (limb X)).toList _ lx under23 rfl size23 ?_ | (refine wpList_store_mid rfl 23 _ _ rfl (w.heap.size + 1 + 1) 0 (c4 (limb X)) rfl rfl (there4 HBr.out) size23 (oneCell4 _) ?_; refine Hid.out ?_))
    refine hideP ?_
    have hb2 := blk_sets (c4 (limb X)).toList 0 HBr.out
    rw [putAll4] at hb2
    have HL := hideP (HBW.out.trans ((But.sets (c4 (limb X)).toList 0 (But.refl (w.heap.size + 1 + 1) W1)).below.mono (by omega)))
    have HB2 := hideP hb2
    clear hb2 HBx HBr HBW lx
    (try simp only [put_none])
    generalize W1.setCells (w.heap.size + 1 + 1) 0 (c4 (limb X)).toList = w2 at HL HB2 ⊢
    go_wp2_with fail
    exact bodyPost_ret_by (results_cell rfl rfl (run_loadVar_mid _ _ 0 23 (c4 (limb X)).toList _ (rangeOf HB2.out) under23 rfl size23)) rfl ⟨by rw [← HRES.out, wv_c4], HL.out⟩

end Go.Proofs.Ytpnijncoldihfaa
