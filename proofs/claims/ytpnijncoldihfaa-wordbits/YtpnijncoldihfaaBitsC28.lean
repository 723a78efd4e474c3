/-
  The document's shifts.
-/
import Derived.Test.YtpnijncoldihfaaBitsC21
import Derived.Test.YtpnijncoldihfaaBitsC26
namespace Go.Proofs.Ytpnijncoldihfaa
open Go.RowKit Go.Shelf

/-- A bit of a shifted word. -/
def shBit (X : Nat) (n : Int) (b i : Nat) : Nat := if (i : Int) - n < 0 then 0 else if (i : Int) - n > 255 then b else bt X ((i : Int) - n).toNat

set_option maxHeartbeats 4000000 in
set_option maxRecDepth 100000 in
theorem refShift_any (X : Nat) (n : Int) (b F : Nat) (hn1 : -256 ≤ n) (hn2 : n ≤ 256) (hb : b ≤ 1) (hF : ∀ i, i < 256 → bt F i = shBit X n b i) (w : World) : Calls Try.prog 110 #[wv X, .int .i64 n, .int .u64 b] w fun e w' => e = .returned (wv F) ∧ Below w.heap.size w w' := by
  generalize hres : wv F = res
  have HRES := hideP hres
  clear hres
  rw [wv_c4 X]
  have HF := hideP hF
  have HB := hideP hb
  have H1 := hideP hn1
  have H2 := hideP hn2
  clear hF hb hn1 hn2
  have HE : Hid (BI w (((w.alloc (.cells (c4 (limb X)) 23 (0, 0))).alloc (.cells #[.int .u64 0, .int .u64 0, .int .u64 0, .int .u64 0] 23 (0, 0))).alloc (.cells #[.int .u64 0, .int .u64 0, .int .u64 0, .int .u64 0] 23 (0, 0))) (w.heap.size) (w.heap.size + 1) (w.heap.size + 1 + 1) X (F % 2 ^ 0)) := by
    rw [Nat.pow_zero, Nat.mod_one]
    refine ⟨?_, ?_, ?_, by omega, by omega, by omega, by omega, ?_⟩
    · simp only [World.alloc, Array.getElem?_push, Array.size_push]; simp [Nat.add_assoc]
    · rw [← zero4]; simp only [World.alloc, Array.getElem?_push, Array.size_push]; simp
    · rw [limb_nought, ← zero4]; simp only [World.alloc, Array.getElem?_push, Array.size_push]; simp
    · repeat first | exact Below.refl _ _ | (refine Below.alloc ?_ (by simp <;> omega) _)
  generalize hcx : c4 (limb X) = cx at HE ⊢
  have HCX := hideP hcx
  clear hcx
  go_enter Try.func110, Try.ntmps110
  go_wp2_with fail
  generalize ((w.alloc (.cells cx 23 (0, 0))).alloc (.cells #[.int .u64 0, .int .u64 0, .int .u64 0, .int .u64 0] 23 (0, 0))).alloc (.cells #[.int .u64 0, .int .u64 0, .int .u64 0, .int .u64 0] 23 (0, 0)) = W2 at HE ⊢
  generalize hO : w.heap.size + 1 + 1 = O at HE ⊢
  clear hO
  rename_i Q' K hK
  have HK := hideP hK
  clear hK
  go_loopw [8] (fun i wr => ∃ (k : Nat), k ≤ 256 ∧ i = .int .i64 k ∧ BI w wr (w.heap.size) (w.heap.size + 1) O X (F % 2 ^ k)) (fun i _ => 256 - (intOf i).toNat)
  case atStart => exact ⟨0, Nat.zero_le _, rfl, HE.out⟩
  case round =>
    obtain ⟨k, hk, rfl, I⟩ := hrel
    have HI := hideP I
    clear I HE
    by_cases hlt : k < 256
    · have h1 := H1.out
      have h2 := H2.out
      have hbit := HF.out k hlt
      unfold shBit at hbit
      have HN : Hid (k + 1 ≤ 256) := hlt
      have g1 : (k : Int) < 256 := by omega
      have e4 : IntKind.i64.wrap ((k : Int) + 1) = (k : Int) + 1 := by rw [IntKind.wrap_i64]; omega
      have e5 : IntKind.i64.wrap ((k : Int) - n) = (k : Int) - n := by rw [IntKind.wrap_i64]; omega
      by_cases hneg : (k : Int) - n < 0
      · rw [if_pos hneg] at hbit
        have HI5 : Hid (BI w wr (w.heap.size) (w.heap.size + 1) O X (F % 2 ^ (k + 1))) := by
          rw [mod_bit, hbit, Nat.zero_mul, Nat.add_zero]; exact HI.out
        clear hlt hk h1 h2 hbit HI
        go_wp2_with fail
        refine ⟨⟨k + 1, HN.out, by go_num, HI5.out⟩, by have := HN.out; simp [intOf]; omega⟩
      · rw [if_neg hneg] at hbit
        have cS := fun W => setBit_any (F % 2 ^ k) k (bt F k) (Nat.mod_lt _ (Nat.pow_pos (by decide))) hlt (bt_le _ _) W
        rw [← mod_bit] at cS
        by_cases hhi : (k : Int) - n > 255
        · rw [if_pos hhi] at hbit
          rw [hbit] at cS
          simp only [wv_c4] at cS
          have CS := hideP cS
          have lo := rangeOf HI.out.o
          have hhi2 : (255 : Int) < (k : Int) - n := hhi
          have hneg2 : (0 : Int) ≤ (k : Int) - n := by omega
          clear hlt hk h1 h2 hbit cS
          go_wp2_with (refine wpList_load_mid rfl 23 _ rfl O 0 rfl (c4 (limb (F % 2 ^ k))).toList _ lo under23 rfl size23 ?_)
          refine (CS.out _).mono ?_
          rintro e w4 ⟨rfl, hb4⟩
          have HI4 := hideP (HI.out.call hb4)
          clear hb4 HI lo CS
          go_wp2_with (refine wpList_store_mid rfl 23 _ _ rfl O 0 (c4 (limb (F % 2 ^ (k + 1)))) rfl rfl (there4 HI4.out.o) size23 (oneCell4 _) ?_; refine Hid.out ?_)
          refine hideP ?_
          have HI5 := hideP (HI4.out.put (F % 2 ^ (k + 1)))
          clear HI4
          (try simp only [put_none])
          generalize w4.setCells O 0 (c4 (limb (F % 2 ^ (k + 1)))).toList = w5 at HI5 ⊢
          go_wp2_with fail
          refine ⟨⟨k + 1, HN.out, by go_num, HI5.out⟩, by have := HN.out; simp [intOf]; omega⟩
        · rw [if_neg hhi] at hbit
          obtain ⟨f, hf⟩ : ∃ f : Nat, (k : Int) - n = (f : Int) := ⟨((k : Int) - n).toNat, by omega⟩
          rw [hf, Int.toNat_natCast] at hbit
          have cB := fun W => refBit_any X f (by omega) W
          rw [← hbit] at cB
          simp only [wv_c4] at cB cS
          have CB := hideP cB
          have CS := hideP cS
          rw [hf] at e5 hneg hhi
          have hneg2 : (0 : Int) ≤ (f : Int) := by omega
          have hhi2 : (f : Int) ≤ 255 := by omega
          clear hlt hk h1 h2 hbit cB cS
          generalize bt F k = bv at *
          go_wp2_with fail
          refine at_world_t (fun W0 hW0 => ?_)
          subst hW0
          refine wp_region_heldS (S := fun V => ∃ g, BI w V (w.heap.size) (w.heap.size + 1) O X g) (by kernel_rfl) ⟨_, HI.out.drew⟩ (fun hS => ?_)
          refine wpAnyH_takeL (i := 1) (v := ?_) rfl (by kernel_rfl) (by kernel_rfl) (by kernel_rfl) (fun _ _ _ h => h) (Or.inl ⟨by kernel_rfl, ?_⟩) hS ?_
          rotate_left
          · intro V hV
            go_simp
            (try with_reducible rfl)
          simp only [put_list, List.set_cons_succ, List.set_cons_zero]
          refine wpAnyH_takeL (i := 2) rfl (by kernel_rfl) (by kernel_rfl) (by kernel_rfl) (fun _ _ _ h => h) (yieldsIf_load_mid (by kernel_rfl) 23 _ rfl (w.heap.size) 0 rfl (c4 (limb (X))).toList _ (fun V hV => rangeOf hV.choose_spec.x) under23 rfl size23) hS ?_
          simp only [put_list, List.set_cons_succ, List.set_cons_zero, Array.toArray_toList]
          refine wpAnyH_takeL (i := 3) (v := ?_) rfl (by kernel_rfl) (by kernel_rfl) (by kernel_rfl) (fun _ _ _ h => h) (Or.inl ⟨by kernel_rfl, ?_⟩) hS ?_
          rotate_left
          · intro V hV
            go_simp
            (try with_reducible rfl)
          simp only [put_list, List.set_cons_succ, List.set_cons_zero]
          refine wpAnyH_pair (i := 0) (j := 4) (r := 2) 17 21 (.agg (c4 (limb (F % 2 ^ k)))) (.int .u64 ((bv : Nat))) (by kernel_rfl) (by kernel_rfl) (by kernel_rfl) (by decide) (by decide) (fun w' hb => ⟨_, HI.out.drew.call hb⟩) ?_ ?_ ?_
          · intro T w' K hT hb hK
            have HI' := HI.out.drew.call hb
            have HK' := hideP hK
            clear hK
            rcases hT with rfl | rfl
            · simp only [List.set_cons_succ, List.set_cons_zero] at HK' ⊢
              refine wpOp_stepT rfl (fun K' hK' => ?_)
              have HKK := hideP hK'
              clear hK'
              rw [if_pos (by kernel_rfl)]
              refine wp_load_mid 23 _ rfl O 0 rfl (c4 (limb (F % 2 ^ k))).toList _ (rangeOf HI'.o) under23 rfl size23 ?_
              exact HKK.out _ _ HK'.out
            · simp only [List.set_cons_succ, List.set_cons_zero] at HK' ⊢
              refine wpOp_stepT rfl (fun K' hK' => ?_)
              have HKK := hideP hK'
              clear hK'
              rw [if_pos (by kernel_rfl)]
              refine wp_load_mid 23 _ rfl O 0 rfl (c4 (limb (F % 2 ^ k))).toList _ (rangeOf HI'.o) under23 rfl size23 ?_
              exact HKK.out _ _ HK'.out
          · intro T w' K hT hb hK
            have HK' := hideP hK
            clear hK
            rcases hT with rfl | rfl
            · simp only [List.set_cons_succ, List.set_cons_zero] at HK' ⊢
              refine wpOp_stepT rfl (fun K' hK' => ?_)
              have HKK := hideP hK'
              clear hK'
              go_simp
              refine (CB.out _).mono ?_
              rintro e w3 ⟨rfl, hb'⟩
              exact HKK.out _ _ (HK'.out w3 hb')
            · simp only [List.set_cons_succ, List.set_cons_zero] at HK' ⊢
              refine wpOp_stepT rfl (fun K' hK' => ?_)
              have HKK := hideP hK'
              clear hK'
              go_simp
              refine (CB.out _).mono ?_
              rintro e w3 ⟨rfl, hb'⟩
              exact HKK.out _ _ (HK'.out w3 hb')
          intro w3 hb3
          have HI3 := hideP (HI.out.drew.call hb3)
          clear hb3 HI hS CB
          simp only [List.set_cons_succ, List.set_cons_zero]
          refine wpAnyH_ready (rs := [5]) (by kernel_rfl) (by simp) (AllReadyH.cons rfl (fun K hK => ?_) AllReadyH.nil)
          rw [if_pos (by kernel_rfl)]
          have HKX := hideP hK
          clear hK
          go_simp
          refine (CS.out _).mono ?_
          rintro e w4 ⟨rfl, hb4⟩
          have HI4 := hideP (HI3.out.call hb4)
          clear hb4 HI3
          refine HKX.out.out _ _ ⟨_, HI4.out⟩ (fun hS => ?_)
          clear HKX K hS
          refine wpAnyH_ready (rs := [6]) (by kernel_rfl) (by simp) (AllReadyH.cons rfl (fun K hK => ?_) AllReadyH.nil)
          rw [if_pos (by kernel_rfl)]
          refine wp_store_mid 23 _ _ rfl O 0 (c4 (limb (F % 2 ^ (k + 1)))) rfl rfl (there4 HI4.out.o) size23 (oneCell4 _) ?_
          have HI5 := hideP (HI4.out.put (F % 2 ^ (k + 1)))
          clear HI4
          generalize w4.setCells O 0 (c4 (limb (F % 2 ^ (k + 1)))).toList = w5 at HI5 ⊢
          refine hK.out _ _ ⟨_, HI5.out⟩ (fun hS => ?_)
          clear hK K hS
          refine wpAnyH_done (by kernel_rfl) ?_ _
          (try simp only [put_none])
          go_wp2_with fail
          refine ⟨⟨k + 1, HN.out, by go_num, HI5.out⟩, by have := HN.out; simp [intOf]; omega⟩
    · have hk6 : k = 256 := by omega
      subst hk6
      have g1 : ¬ ((256 : Nat) : Int) < 256 := by decide
      clear hlt hk
      go_wp2_with fail
      refine HK.out _ _ ?_
      refine endRow (C := c4 (limb (F % 2 ^ 256))) rfl rfl rfl (by decide) (by show 33 < 34; decide) rfl under23 rfl size23 (oneCell4 _) (rangeOf HI.out.o) (there4 HI.out.r) ?_
      intro wS h
      exact ⟨by rw [← HRES.out, ← wv_c4, wv_two], HI.out.b.trans (h.below.mono (by omega))⟩

end Go.Proofs.Ytpnijncoldihfaa
