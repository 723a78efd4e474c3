/-
  The digits of a word, the program's.
-/
import Derived.Test.YtpnijncoldihfaaTextsC27
import Derived.Test.YtpnijncoldihfaaTextsC28
import Derived.Test.YtpnijncoldihfaaTextsC35
import Derived.Test.YtpnijncoldihfaaTextsC38
namespace Go.Proofs.Ytpnijncoldihfaa
open Go.RowKit Go.Shelf

theorem zero78 : Try.zeroCells111 = cbs 78 (fun _ => 0) := by kernel_rfl

theorem word_digits {b X : Nat} (hb : 10 ≤ b) (hX : X < M256) : X / b ^ 78 = 0 := by
  refine Nat.div_eq_of_lt (Nat.lt_of_lt_of_le hX (Nat.le_trans (show M256 ≤ 10 ^ 78 by decide) (Nat.pow_le_pow_left hb 78)))

set_option maxHeartbeats 16000000 in
set_option maxRecDepth 100000 in
theorem digits_any (X b : Nat) (hX : X < M256) (hb : b = 10 ∨ b = 16) (w : World) : Calls Try.prog 117 #[wv X, .int .u64 b] w fun e w' => (∃ n, n ≤ 78 ∧ ND b X n ∧ e = .returned (.string (strD b X n))) ∧ Below w.heap.size w w' := by
  have hb16 : b ≤ 16 := by omega
  have hb10 : 10 ≤ b := by omega
  have HXM := hideP hX
  have HB16 := hideP hb16
  have HB10 := hideP hb10
  have HE : Hid (GI w ((w.alloc (.cells (c4 (limb X)) 24 (0, 0))).alloc (.cells Try.zeroCells111 111 (0, 0))) b X 0) := by
    refine ⟨?_, ⟨fun _ => 0, ?_, fun j hj => absurd hj (by omega)⟩, ((Below.refl _ w).alloc (Nat.le_refl _) _).alloc (by simp) _⟩
    · rw [Nat.pow_zero, Nat.div_one]; exact (heap_old _ _ (by simp)).trans (heap_new _ _)
    · rw [← zero78]; exact heap_new1 _ _ _
  rw [wv_c4]
  clear hX hb hb16 hb10
  go_enter Try.func117, Try.ntmps117
  go_wp2_with fail
  generalize (w.alloc (.cells (c4 (limb X)) 24 (0, 0))).alloc (.cells Try.zeroCells111 111 (0, 0)) = W2 at HE ⊢
  rename_i Q' K hK
  have HK := hideP hK
  clear hK
  go_loopw [6, 10] (fun f i wr => ∃ (k : Nat), k ≤ 78 ∧ i = .int .i64 k ∧ f = .int .i64 (78 - k : Nat) ∧ (0 < k → X / b ^ k ≠ 0) ∧ GI w wr b X k) (fun _ i _ => 78 - (intOf i).toNat)
  case atStart => exact ⟨0, Nat.zero_le _, rfl, rfl, fun h => absurd h (by omega), HE.out⟩
  case round =>
    obtain ⟨k, hk, rfl, rfl, hnz, I⟩ := hrel
    have HI := hideP I
    have HNZ := hideP hnz
    clear I HE hnz
    by_cases hlt : k < 78
    · have HN : Hid (k < 78) := hlt
      have hb16 := HB16.out
      have hb10 := HB10.out
      have hpk : 0 < b ^ k := Nat.pow_pos (by omega)
      have hQM : X / b ^ k < M256 := Nat.lt_of_le_of_lt (Nat.div_le_self _ _) HXM.out
      have hR16 : X / b ^ k % b < 16 := Nat.lt_of_lt_of_le (Nat.mod_lt _ (by omega)) hb16
      have hQe : X / b ^ k / b = X / b ^ (k + 1) := by rw [Nat.div_div_eq_div_mul, Nat.pow_succ]
      have co := fun W => of_any b (by omega) W
      have cv := fun W => divide_any (X / b ^ k) b W
      have hbM : b % M256 = b := Nat.mod_eq_of_lt (Nat.lt_of_le_of_lt hb16 (by decide))
      have hrest : restN (X / b ^ k) b = X / b ^ k % b := by unfold restN; rw [if_neg (by omega)]
      rw [hbM, Nat.mod_eq_of_lt hQM, hrest, hQe, wv_c4 (X / b ^ (k + 1)), wv_c4 (X / b ^ k % b)] at cv
      obtain ⟨y0, y1, y2, y3, hy⟩ := wv_form b
      obtain ⟨v0, v1, v2, v3, hv⟩ := wv_form (X / b ^ k)
      simp only [hy, hv] at co cv
      have hxx := HI.out.x
      have hcc : c4 (limb (X / b ^ k)) = #[.int .u64 v0, .int .u64 v1, .int .u64 v2, .int .u64 v3] := by
        have h := wv_c4 (X / b ^ k)
        rw [hv] at h
        injection h with h
        exact h.symm
      rw [hcc] at hxx
      obtain ⟨cx0, cx1, cx2, cx3⟩ := cells4 hxx
      have hlx := lt_of_block hxx
      have CO := hideP co
      have CV := hideP cv
      have HR16 := hideP hR16
      have g1 : (k : Int) < 78 := by omega
      have e4 : IntKind.i64.wrap ((k : Int) + 1) = (k : Int) + 1 := by rw [IntKind.wrap_i64]; omega
      have e5 : IntKind.i64.wrap (77 - (k : Int)) = ((77 - k : Nat) : Int) := by rw [IntKind.wrap_i64]; omega
      clear co cv hy hv hcc hxx hbM hrest hQe hR16 hQM hpk hlt hk hb16 hb10
      go_wp2_with fail
      refine wp_region_heldS (S := fun V => Below wr.heap.size wr V) (by kernel_rfl) (Below.refl _ _).drew (fun hS => ?_)
      refine wpAnyH_takeL (i := 0) (v := ?_) rfl (by kernel_rfl) (by kernel_rfl) (by kernel_rfl) (fun _ _ _ h => h) (Or.inl ⟨by kernel_rfl, ?_⟩) hS ?_
      rotate_left
      · intro V hV
        have k0 := (hV.cell (p := ⟨w.heap.size, 0, none⟩) hlx).trans cx0
        have k1 := (hV.cell (p := ⟨w.heap.size, 1, none⟩) hlx).trans cx1
        have k2 := (hV.cell (p := ⟨w.heap.size, 2, none⟩) hlx).trans cx2
        have k3 := (hV.cell (p := ⟨w.heap.size, 3, none⟩) hlx).trans cx3
        go_simp
        (try with_reducible rfl)
      simp only [put_list, List.set_cons_succ, List.set_cons_zero]
      refine wpAnyH_takeL (i := 1) (v := ?_) rfl (by kernel_rfl) (by kernel_rfl) (by kernel_rfl) (fun _ _ _ h => h) (Or.inl ⟨by kernel_rfl, ?_⟩) hS ?_
      rotate_left
      · intro V hV
        go_simp
        (try with_reducible rfl)
      simp only [put_list, List.set_cons_succ, List.set_cons_zero]
      clear cx0 cx1 cx2 cx3 hlx
      refine regionN (r := 2 + 3) 2 (fun k => match k with | 0 => 2 | _ => 3) (fun k => match k with | 0 => 16 | _ => 17) (fun k' => match k' with | 0 => .agg #[.int .u64 y0, .int .u64 y1, .int .u64 y2, .int .u64 y3] | _ => .tuple #[.agg (c4 (limb (X / b ^ (k + 1)))), .agg (c4 (limb (X / b ^ k % b)))]) (fun i p q => #[true, true, decide (1 ≤ i), decide (2 ≤ i), false, false, false, p, q, false, false] : Nat → Bool → Bool → Array Bool) #[.int .u64 0, .int .u64 0, .int .u64 0, .int .u64 0] 24 7 8 8 9 (by kernel_rfl) (by decide) (by decide) (by kernel_rfl) hS ?_ ?_ ?_ ?_
      · intro i hi T w2 K hT hK
        match i, hi with
        | 0, _ =>
          have t0 : T[15]? = some (.int .u64 b) := hT 15 (by decide) (by decide)
          refine wpOp_stepT (i := 2) rfl (fun K' hK' => ?_)
          have HK' := hideP hK'
          have HK9 := hideP hK
          clear hK hK' hT
          go_simp
          refine (CO.out _).mono ?_
          rintro e w3 ⟨rfl, hb⟩
          exact HK'.out _ _ (HK9.out w3 hb)
        | 1, _ =>
          have t0 : T[14]? = some (.agg #[.int .u64 v0, .int .u64 v1, .int .u64 v2, .int .u64 v3]) := hT 14 (by decide) (by decide)
          have t1 : T[16]? = some (.agg #[.int .u64 y0, .int .u64 y1, .int .u64 y2, .int .u64 y3]) := hT 16 (by decide) (by decide)
          refine wpOp_stepT (i := 3) rfl (fun K' hK' => ?_)
          have HK' := hideP hK'
          have HK9 := hideP hK
          clear hK hK' hT
          go_simp
          refine (CV.out _).mono ?_
          rintro e w3 ⟨rfl, hb⟩
          exact HK'.out _ _ (HK9.out w3 hb)
        | k' + 2, h => exact absurd h (by omega)
      · intro T w2 K hK
        refine wpOp_stepT rfl (fun K' hK' => ?_)
        have HK' := hideP hK'
        have HK9 := hideP hK
        clear hK hK'
        go_simp
        exact HK'.out _ _ HK9.out
      · intro T w2 K hK
        refine wpOp_stepT rfl (fun K' hK' => ?_)
        have HK' := hideP hK'
        have HK9 := hideP hK
        clear hK hK'
        go_simp
        exact HK'.out _ _ HK9.out
      intro k1 w2 p q hk1 hS2 fp fq pq
      have hone : one? p ≤ 1 ∧ one? q ≤ 1 := by unfold one?; constructor <;> split <;> omega
      obtain ⟨k2, rfl⟩ : ∃ k2, k1 = k2 + 1 + 1 + 1 := ⟨k1 - 3, by omega⟩
      refine wpAnyH_takeO (i := 4) (d := 13) (v := .tuple #[.agg (c4 (limb (X / b ^ (k + 1)))), .agg (c4 (limb (X / b ^ k % b)))]) (L := fun p q => (fun i p q => #[true, true, decide (1 ≤ i), decide (2 ≤ i), false, false, false, p, q, false, false] : Nat → Bool → Bool → Array Bool) 2 p q) rfl rfl (by decide) (by decide) (by kernel_rfl) (by intro p q; cases p <;> cases q <;> kernel_rfl) (by intro p q; cases p <;> cases q <;> kernel_rfl) (fun _ _ _ h => h) ?_ hS2 ?_
      · intro T hT
        have t0 : T[17]? = some (.tuple #[.agg (c4 (limb (X / b ^ (k + 1)))), .agg (c4 (limb (X / b ^ k % b)))]) := hT 17 (by decide) (by decide)
        refine Or.inl ⟨rfl, ?_⟩
        intro V hV
        clear hT
        go_simp
      refine wpAnyH_takeO (i := 5) (d := 18) (v := .agg (c4 (limb (X / b ^ (k + 1))))) (L := fun p q => ((fun i p q => #[true, true, decide (1 ≤ i), decide (2 ≤ i), false, false, false, p, q, false, false] : Nat → Bool → Bool → Array Bool) 2 p q).setIfInBounds 4 true) rfl rfl (by decide) (by decide) (by kernel_rfl) (by intro p q; cases p <;> cases q <;> kernel_rfl) (by intro p q; cases p <;> cases q <;> kernel_rfl) (fun _ _ _ h => h) ?_ hS2 ?_
      · intro T hT
        have t0 : T[13]? = some (.tuple #[.agg (c4 (limb (X / b ^ (k + 1)))), .agg (c4 (limb (X / b ^ k % b)))]) := hT 13 (by decide) (by decide)
        refine Or.inl ⟨rfl, ?_⟩
        intro V hV
        clear hT
        go_simp
      refine wpAnyH_takeO (i := 6) (d := 19) (v := .agg (c4 (limb (X / b ^ k % b)))) (L := fun p q => (((fun i p q => #[true, true, decide (1 ≤ i), decide (2 ≤ i), false, false, false, p, q, false, false] : Nat → Bool → Bool → Array Bool) 2 p q).setIfInBounds 4 true).setIfInBounds 5 true) rfl rfl (by decide) (by decide) (by kernel_rfl) (by intro p q; cases p <;> cases q <;> kernel_rfl) (by intro p q; cases p <;> cases q <;> kernel_rfl) (fun _ _ _ h => h) ?_ hS2 ?_
      · intro T hT
        have t0 : T[13]? = some (.tuple #[.agg (c4 (limb (X / b ^ (k + 1)))), .agg (c4 (limb (X / b ^ k % b)))]) := hT 13 (by decide) (by decide)
        refine Or.inl ⟨rfl, ?_⟩
        intro V hV
        clear hT
        go_simp
      refine region2 (r := 2) (fun p q => ((((fun i p q => #[true, true, decide (1 ≤ i), decide (2 ≤ i), false, false, false, p, q, false, false] : Nat → Bool → Bool → Array Bool) 2 p q).setIfInBounds 4 true).setIfInBounds 5 true).setIfInBounds 6 true) #[.int .u64 0, .int .u64 0, .int .u64 0, .int .u64 0] 24 7 8 8 9 (by kernel_rfl) (by decide) rfl (by omega) hS2 fp fq pq ?_ ?_ ?_
      · intro T w2 K hK
        refine wpOp_stepT rfl (fun K' hK' => ?_)
        have HK' := hideP hK'
        have HK9 := hideP hK
        clear hK hK'
        go_simp
        exact HK'.out _ _ HK9.out
      · intro T w2 K hK
        refine wpOp_stepT rfl (fun K' hK' => ?_)
        have HK' := hideP hK'
        have HK9 := hideP hK
        clear hK hK'
        go_simp
        exact HK'.out _ _ HK9.out
      clear hk1 hS2 fp fq pq hone
      intro w2 b1 b2 hS l1 l2 h1 h2 n12
      simp only [TC, List.set_cons_succ, List.set_cons_zero]
      rw [zero4] at h1 h2
      refine wpAnyH_ready (rs := [9]) (by kernel_rfl) (by simp) (AllReadyH.cons rfl (fun K hK => ?_) AllReadyH.nil)
      rw [if_pos (by kernel_rfl)]
      refine wp_store_mid 24 (.tmp 8) (.tmp 18) rfl b1 0 (c4 (limb (X / b ^ (k + 1)))) rfl rfl (there4 h1) size24 (oneCell4 _) ?_
      have g1 := blk_sets (c4 (limb (X / b ^ (k + 1)))).toList 0 h1
      rw [putAll4] at g1
      have hB1 := But.sets (c4 (limb (X / b ^ (k + 1)))).toList 0 (But.refl b1 w2)
      replace h2 := (hB1.same _ (Ne.symm n12)).trans h2
      have hSB := hS.trans (hB1.below.mono l1)
      clear h1 hB1
      generalize w2.setCells b1 0 (c4 (limb (X / b ^ (k + 1)))).toList = w3 at g1 h2 hSB ⊢
      refine hK.out _ _ hSB (fun hS => ?_)
      clear hK K hSB
      refine wpAnyH_ready (rs := [10]) (by kernel_rfl) (by simp) (AllReadyH.cons rfl (fun K hK => ?_) AllReadyH.nil)
      rw [if_pos (by kernel_rfl)]
      refine wp_store_mid 24 (.tmp 9) (.tmp 19) rfl b2 0 (c4 (limb (X / b ^ k % b))) rfl rfl (there4 h2) size24 (oneCell4 _) ?_
      have g2 := blk_sets (c4 (limb (X / b ^ k % b))).toList 0 h2
      rw [putAll4] at g2
      have hB2 := But.sets (c4 (limb (X / b ^ k % b))).toList 0 (But.refl b2 w3)
      replace g1 := (hB2.same _ n12).trans g1
      have hSB := hS.trans (hB2.below.mono l2)
      clear h2 hB2
      generalize w3.setCells b2 0 (c4 (limb (X / b ^ k % b))).toList = w4 at g1 g2 hSB ⊢
      refine hK.out _ _ hSB (fun hS => ?_)
      clear hK K hSB
      refine wpAnyH_done (by kernel_rfl) ?_ _

      have hlw := lt_of_block HI.out.x
      have hlo := lt_of_block HI.out.o.choose_spec.1
      have HI4 := hideP (HI.out.move hS)
      have hR0 : limb (X / b ^ k % b) 0 = X / b ^ k % b := by
        have := HR16.out
        unfold limb
        rw [Nat.pow_zero, Nat.div_one, Nat.mod_eq_of_lt (by omega)]
      have cr0 := blk_cell g2 (cget4 (limb (X / b ^ k % b)) (show 0 < 4 by decide))
      rw [hR0] at cr0
      obtain ⟨g, hg, _⟩ := HI4.out.o
      have hk78 := HN.out
      have co := blk_cell hg (cbs_get 78 g (show 77 - k < 78 by omega))
      have fo : ∀ o, w4.frozen? ⟨w.heap.size + 1, o, none⟩ = false := fun o => blk_free hg
      have hix := fun W => index_hex HR16.out W
      obtain ⟨q0, q1, q2, q3, hq⟩ := wv_form (X / b ^ (k + 1))
      have hcq : c4 (limb (X / b ^ (k + 1))) = #[.int .u64 q0, .int .u64 q1, .int .u64 q2, .int .u64 q3] := by
        have h := wv_c4 (X / b ^ (k + 1))
        rw [hq] at h
        injection h with h
        exact h.symm
      rw [hcq] at g1
      obtain ⟨cq0, cq1, cq2, cq3⟩ := cells4 g1
      obtain ⟨cx0, cx1, cx2, cx3⟩ := cells4 (show w4.heap[w.heap.size]? = some (.cells #[.int .u64 (limb (X / b ^ k) 0), .int .u64 (limb (X / b ^ k) 1), .int .u64 (limb (X / b ^ k) 2), .int .u64 (limb (X / b ^ k) 3)] 24 (0, 0)) from HI4.out.x)
      have fx : ∀ o, w4.frozen? ⟨w.heap.size, o, none⟩ = false := fun o => blk_free HI4.out.x
      have nb1 : ¬ b1 = w.heap.size + 1 := by omega
      have nb2 : ¬ b1 = w.heap.size := by omega
      have nb3 : ¬ w.heap.size + 1 = b1 := by omega
      have nb4 : ¬ w.heap.size = b1 := by omega
      have g5 : ((77 - k : Nat) : Int) < 78 := by omega
      have HST := hideP (HI4.out.step HN.out rfl hq)
      have hQM' : X / b ^ (k + 1) < M256 := Nat.lt_of_le_of_lt (Nat.div_le_self _ _) HXM.out
      have heq := fun W => eq_wv (X / b ^ (k + 1)) 0 W
      rw [hq, Nat.mod_eq_of_lt hQM', show wv 0 = .agg #[.int .u64 0, .int .u64 0, .int .u64 0, .int .u64 0] from rfl, Nat.zero_mod] at heq
      clear hcq hq g1 g2 hg hlw hlo l1 l2 n12 hS hR0 hk78 HI HI4 hQM'
      (try simp only [put_none])
      generalize X / b ^ k % b = rd at *
      generalize hexd rd = hd at *
      by_cases hQ : X / b ^ (k + 1) = 0
      · rw [decide_eq_true hQ] at heq
        have HQ := hideP hQ
        clear hQ
        go_wp2_with fail
        refine HK.out _ _ ?_
        clear cr0 co fo hix cq0 cq1 cq2 cq3 cx0 cx1 cx2 cx3 fx nb1 nb2 nb3 nb4 heq
        generalize ((((w4.setCell ⟨w.heap.size + 1, 77 - k, none⟩ (.int .u8 hd)).setCell ⟨w.heap.size, 0, none⟩ (.int .u64 q0)).setCell ⟨w.heap.size, 1, none⟩ (.int .u64 q1)).setCell ⟨w.heap.size, 2, none⟩ (.int .u64 q2)).setCell ⟨w.heap.size, 3, none⟩ (.int .u64 q3) = W9 at HST ⊢
        have hk78 := HN.out
        have hsl := fun W => slice78 (w.heap.size + 1) (77 - k) (by omega) W
        rw [show 78 - (77 - k) = k + 1 by omega] at hsl
        have hcv := conv_digits (V := W9) (b := b) (X := X) (n := k + 1) (cap := k + 1) (B := w.heap.size + 1) (o := 77 - k) HB16.out (by have := HB10.out; omega) (fun j hj => by
          obtain ⟨g', hg', hj'⟩ := HST.out.o
          rw [blk_cell hg' (cbs_get 78 g' (show 77 - k + j < 78 by omega)), show 77 - k + j = 77 - (k - j) by omega, hj' (k - j) (by omega)]
          unfold digB
          rw [show k + 1 - 1 - j = k - j by omega])
        have HL := hideP HST.out.b
        have HND : Hid (ND b X (k + 1)) := by
          have hb10 := HB10.out
          refine ⟨by omega, ?_, fun h => ?_⟩
          · rcases Nat.lt_or_ge X (b ^ (k + 1)) with h | h
            · exact h
            · have := Nat.div_pos h (Nat.pow_pos (by omega))
              have := HQ.out
              omega
          · rw [Nat.add_sub_cancel]
            rcases Nat.lt_or_ge X (b ^ k) with h' | h'
            · exact absurd (Nat.div_eq_of_lt h') (HNZ.out (by omega))
            · exact h'
        clear hk78
        go_wp2_with fail
        go_ret
        exact ⟨⟨k + 1, HN.out, HND.out, rfl⟩, HL.out⟩
      · rw [decide_eq_false hQ] at heq
        have HQ := hideP hQ
        clear hQ
        go_wp2_with fail
        exact ⟨⟨k + 1, HN.out, by go_num, by rw [show 78 - (k + 1) = 77 - k by omega], fun _ => HQ.out, HST.out⟩, by have := HN.out; simp [intOf]; omega⟩
    · have hk6 : k = 78 := by omega
      subst hk6
      exact absurd (word_digits HB10.out HXM.out) (HNZ.out (by omega))

end Go.Proofs.Ytpnijncoldihfaa
