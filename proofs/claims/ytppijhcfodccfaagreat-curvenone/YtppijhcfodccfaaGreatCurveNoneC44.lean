/-
  A curve that nobody made has no points: the law.
-/
import Derived.Test.YtppijhcfodccfaaGreatCurveNoneC43
namespace Go.Proofs.YtppijhcfodccfaaGreat
open Go.RowKit Go.Shelf

/-- What comes behind is hidden. -/
theorem wp_genQ {P : Program} {c : Code} {Q : Exit → Act → World → Prop} {a : Act} {w : World} (hp : ∀ ch (a : Act) d v w, Q (.panic ch) (a.put d v) w → Q (.panic ch) a w) (h : ∀ Q', Hid (Q' = Q) → Hid (∀ ch (a : Act) d v w, Q' (.panic ch) (a.put d v) w → Q' (.panic ch) a w) → c.wp P Q' a w) : c.wp P Q a w := h Q rfl hp

set_option maxHeartbeats 8000000 in
set_option maxRecDepth 100000 in
theorem curveNone_any (a b c d : Nat) (i : Bool) (k : Nat) (w : World) : Calls Tryz.prog 11 #[.agg (pn a b c d i), .agg (W4.cs (limb k))] w fun e w' => e = .returned (.bool true) ∧ Below w.heap.size w w' := by
  go_enter Tryz.func11, Tryz.ntmps11
  refine wp_seqH (fun K0 HK0 => ?_)
  go_wp2_with fail
  refine HK0.out _ _ ?_
  clear HK0 K0
  refine at_world (fun W0 hW0 => ?_)
  have hb0 : W0.heap[w.heap.size]? = some (.cells (pn a b c d i) 30 (0, 0)) := by
    rw [hW0]
    exact ((heap_old _ _ (by simp <;> omega)).trans (heap_new _ _))
  have hb1 : W0.heap[w.heap.size + 1]? = some (.cells (W4.cs (limb k)) 65 (0, 0)) := by
    rw [hW0]
    exact heap_new1 _ _ _
  have hbw : Below w.heap.size w W0 := by
    rw [hW0]
    repeat first | exact Below.refl _ _ | (refine Below.alloc ?_ (by simp <;> omega) _)
  clear hW0
  have H0 := hideP hb0
  have H1 := hideP hb1
  have HBW := hideP hbw
  clear hb0 hb1 hbw
  generalize hN : w.heap.size = N at *
  clear hN
  generalize hB1 : N + 1 = B1 at *
  have o1 : N < B1 := by omega
  clear hB1
  -- awake
  refine wp_seqH (fun K2 HK2 => ?_)
  refine wp_seqH (fun K1 HK1 => ?_)
  refine wp_region_list ?_
  refine wpList_oper rfl (fun K hK => ?_)
  refine wp_callD (av := #[]) _ _ 14 rfl rfl (by simp only [List.map_toArray, List.map_nil]) (enters_of Tryz.func12 (by kernel_rfl) rfl) (awake_any _) ?_
  intro x1 hb1
  refine hK _ _ ?_
  clear hK K
  simp only [List.set_cons_succ, List.set_cons_zero]
  have H0' := hideP ((hb1.block _ (lt_of_block H0.out)).trans H0.out)
  have H1' := hideP ((hb1.block _ (lt_of_block H1.out)).trans H1.out)
  have HBW' := hideP (HBW.out.trans (hb1.mono (Nat.le_of_lt (lt_of_block H0.out))))
  clear H0 H1 HBW hb1
  refine wpList_oper rfl (fun K hK => ?_)
  go_simp
  refine hK _ _ ?_
  clear hK K
  refine wpList_nil ?_
  refine HK1.out _ _ ?_
  clear HK1 K1
  refine wp_cond_false rfl ?_
  refine wp_skip ?_
  refine HK2.out _ _ ?_
  clear HK2 K2
  refine wp_seqH (fun K1 HK1 => ?_)
  go_wp2_with fail
  refine HK1.out _ _ ?_
  clear HK1 K1
  -- the two curves
  refine wp_seqH (fun K2 HK2 => ?_)
  refine wp_seqH (fun K1 HK1 => ?_)
  go_wp2_with fail
  refine HK1.out _ _ ?_
  clear HK1 K1
  refine at_world (fun W1 hW1 => ?_)
  have hLC : LC W1 (x1.heap.size + 1) x1.heap.size W1.heap.size := by
    have h1 : W1.heap.size = x1.heap.size + 2 := by rw [hW1]; simp
    refine ⟨?_, ?_, by omega, by omega, Nat.le_refl _⟩
    · rw [hW1]
      exact heap_new1 _ _ _
    · rw [hW1]
      exact (heap_old _ _ (by simp)).trans (heap_new _ _)
  have hb2 : Below x1.heap.size x1 W1 := by
    rw [hW1]
    repeat first | exact Below.refl _ _ | (refine Below.alloc ?_ (by simp <;> omega) _)
  clear hW1
  have G0 := hideP ((hb2.block _ (lt_of_block H0'.out)).trans H0'.out)
  have G1 := hideP ((hb2.block _ (lt_of_block H1'.out)).trans H1'.out)
  have GBW := hideP (HBW'.out.trans (hb2.mono (Nat.le_of_lt (lt_of_block H0'.out))))
  have GLC := hideP hLC
  clear hLC hb2 H0' H1' HBW'
  generalize x1.heap.size + 1 = R at *
  generalize x1.heap.size = Z at *
  generalize W1.heap.size = M at *
  refine wp_block ?_
  go_loopw [21] (fun v wr => ∃ n : Nat, n ≤ 2 ∧ v = .int .i64 (n : Int) ∧ Hid (LC wr R Z M) ∧ Hid (wr.heap[N]? = some (.cells (pn a b c d i) 30 (0, 0))) ∧ Hid (wr.heap[B1]? = some (.cells (W4.cs (limb k)) 65 (0, 0))) ∧ Hid (Below N w wr)) (fun v _ => (2 - intOf v).toNat)
  case atStart => exact ⟨0, by omega, rfl, GLC, G0, G1, GBW⟩
  case round =>
    clear GLC G0 G1 GBW
    obtain ⟨n, hn, rfl, HG, H0, H1, HBW⟩ := hrel
    by_cases hlt : n < 2
    · have hl1 : (n : Int) < 2 := by omega
      have hl0 : (0 : Int) ≤ (n : Int) := by omega
      have hcell := HG.out.cell hlt
      have e1 : IntKind.i64.wrap ((n : Int) + 1) = (n : Int) + 1 := by rw [IntKind.wrap_i64]; omega
      have HLT := hideP hlt
      clear hlt hn
      refine wp_genQ (fun _ _ d _ _ h => by cases d <;> exact h) (fun Q9 HQ9 HP9 => ?_)
      refine wp_seqH (fun K0 HK0 => ?_)
      go_wp2_with fail
      refine HK0.out _ _ ?_
      clear HK0 K0
      refine wp_seqH (fun K4 HK4 => ?_)
      refine wp_cond_true rfl ?_
      refine wp_skip ?_
      refine HK4.out _ _ ?_
      clear HK4 K4
      refine wp_seqH (fun K3 HK3 => ?_)
      refine wp_block ?_
      refine wp_seqH (fun K0 HK0 => ?_)
      go_wp2_with fail
      refine HK0.out _ _ ?_
      clear HK0 K0 hcell hl0 hl1
      have HE1 := hideP e1
      clear e1
      refine wp_seqH (fun K1 HK1 => ?_)
      refine wp_region_heldS (S := fun V => Below wr.heap.size wr V) (by kernel_rfl) (Below.refl _ _).drew (fun hS => ?_)
      refine wpAnyH_takeL (i := 0) (v := ?_) rfl (by kernel_rfl) (by kernel_rfl) (by kernel_rfl) (fun _ _ _ h => HP9.out _ _ _ _ _ h) (Or.inl ⟨by kernel_rfl, ?_⟩) hS ?_
      rotate_left
      · intro V hV
        go_simp
        (try with_reducible rfl)
      simp only [put_list, List.set_cons_succ, List.set_cons_zero]
      refine wpAnyH_takeL (i := 1) (v := .agg (pn a b c d i)) rfl (by kernel_rfl) (by kernel_rfl) (by kernel_rfl) (fun _ _ _ h => HP9.out _ _ _ _ _ h) (yields_loadC (by kernel_rfl) 30 _ rfl (N) (0) rfl (pn a b c d i) _ (fun V hV => rangeOf ((hV.block _ (lt_of_block H0.out)).trans H0.out)) underPn rfl (infoPn (pn_size _ _ _ _ _))) hS ?_
      simp only [put_list, List.set_cons_succ, List.set_cons_zero]
      refine wpAnyH_takeL (i := 3) (v := .agg (pn a b c d i)) rfl (by kernel_rfl) (by kernel_rfl) (by kernel_rfl) (fun _ _ _ h => HP9.out _ _ _ _ _ h) (yields_loadC (by kernel_rfl) 30 _ rfl (N) (0) rfl (pn a b c d i) _ (fun V hV => rangeOf ((hV.block _ (lt_of_block H0.out)).trans H0.out)) underPn rfl (infoPn (pn_size _ _ _ _ _))) hS ?_
      simp only [put_list, List.set_cons_succ, List.set_cons_zero]
      refine regionR (r := 2) 3 3 (fun jz => match jz with | 0 => 2 | 1 => 4 | _ => 5) (fun jz => match jz with | 0 => 28 | 1 => 30 | _ => 31) (fun jz => match jz with | 0 => .agg (P4.pt (lo4 a) (lo4 c) (i)) | 1 => .agg (P4.pt (lo4 a) (lo4 c) (i)) | _ => .tuple #[.agg (P4.pt (P4.k0) (P4.k0) (true)), .int .i64 3]) (fun iz pz => #[true, true, decide (0 < iz), true, decide (1 < iz), decide (2 < iz), false, false, false, pz, false, false] : Nat → Bool → Array Bool) (fun pz => #[true, true, true, true, true, true, true, true, true, pz, false, false] : Bool → Array Bool) ?Tq1 #[.int .u64 0, .int .u64 0, .int .u64 0, .int .u64 0, .int .u64 0, .int .u64 0, .int .u64 0, .int .u64 0, .bool false] 34 9 8 (by kernel_rfl) (by decide) (by kernel_rfl) hS ?hc1 ?h11 ?hq01 ?hq11 ?hend1
      case hc1 =>
        intro iz hi T w2 K hW2 hT hK
        match iz, hi with
        | 0, _ =>
          have t27 : T[27]? = some (.agg (pn a b c d i)) := hT 27 (by decide)
          refine wpOp_stepT (i := 2) rfl (fun K' hK' => ?_)
          refine ite_wp (by kernel_rfl) ?_
          refine wp_callD (av := #[.agg (pn a b c d i)]) _ _ 28 rfl rfl (by simp only [List.map_toArray, List.map_cons, List.map_nil, eval_get t27]) (enters_of Tryz.func33 (by kernel_rfl) rfl) (bn1_any a b c d i _) ?_
          intro w3 hb
          exact hK' _ _ (hK w3 hb)
        | 1, _ =>
          have t29 : T[29]? = some (.agg (pn a b c d i)) := hT 29 (by decide)
          refine wpOp_stepT (i := 4) rfl (fun K' hK' => ?_)
          refine ite_wp (by kernel_rfl) ?_
          refine wp_callD (av := #[.agg (pn a b c d i)]) _ _ 30 rfl rfl (by simp only [List.map_toArray, List.map_cons, List.map_nil, eval_get t29]) (enters_of Tryz.func33 (by kernel_rfl) rfl) (bn1_any a b c d i _) ?_
          intro w3 hb
          exact hK' _ _ (hK w3 hb)
        | 2, _ =>
          have t26 : T[26]? = some (vv Z n) := hT 26 (by decide)
          have t28 : T[28]? = some (.agg (P4.pt (lo4 a) (lo4 c) (i))) := hT 28 (by decide)
          have t30 : T[30]? = some (.agg (P4.pt (lo4 a) (lo4 c) (i))) := hT 30 (by decide)
          refine wpOp_stepT (i := 5) rfl (fun K' hK' => ?_)
          refine ite_wp (by kernel_rfl) ?_
          refine wp_callD (av := #[vv Z n, .agg (P4.pt (lo4 a) (lo4 c) (i)), .agg (P4.pt (lo4 a) (lo4 c) (i))]) _ _ 31 rfl rfl (by simp only [List.map_toArray, List.map_cons, List.map_nil, eval_get t26, eval_get t28, eval_get t30]) (enters_of Tryz.func38 (by kernel_rfl) rfl) (P4.AddN _ _ _ _ _ _ ((HG.out.below hW2).nc n)) ?_
          intro w3 hb
          exact hK' _ _ (hK w3 hb)
        | k' + 3, h => exact absurd h (by omega)
      case h11 =>
        intro T w2 K hK
        refine wpOp_stepT rfl (fun K' hK' => ?_)
        have HK' := hideP hK'
        have HK9 := hideP hK
        clear hK hK'
        go_simp
        exact HK'.out _ _ HK9.out
      case hq01 =>
        intro w2 hS hq
        simp only [TC, List.set_cons_succ, List.set_cons_zero]
        refine wpAnyH_takeL (i := 6) (v := ?_) rfl (by kernel_rfl) (by kernel_rfl) (by kernel_rfl) (fun _ _ _ h => HP9.out _ _ _ _ _ h) (Or.inl ⟨by kernel_rfl, ?_⟩) hS ?_
        rotate_left
        · intro V hV
          go_simp
          (try with_reducible rfl)
        simp only [put_list, List.set_cons_succ, List.set_cons_zero]
        refine wpAnyH_takeL (i := 7) (v := ?_) rfl (by kernel_rfl) (by kernel_rfl) (by kernel_rfl) (fun _ _ _ h => HP9.out _ _ _ _ _ h) (Or.inl ⟨by kernel_rfl, ?_⟩) hS ?_
        rotate_left
        · intro V hV
          go_simp
          (try with_reducible rfl)
        simp only [put_list, List.set_cons_succ, List.set_cons_zero]
        refine wpAnyH_takeL (i := 8) (v := ?_) rfl (by kernel_rfl) (by kernel_rfl) (by kernel_rfl) (fun _ _ _ h => HP9.out _ _ _ _ _ h) (Or.inl ⟨by kernel_rfl, ?_⟩) hS ?_
        rotate_left
        · intro V hV
          go_simp
          (try with_reducible rfl)
        simp only [put_list, List.set_cons_succ, List.set_cons_zero]
        exact hq
      case hq11 =>
        intro w2 b1 hS hq
        simp only [TC, List.set_cons_succ, List.set_cons_zero]
        refine wpAnyH_takeL (i := 6) (v := ?_) rfl (by kernel_rfl) (by kernel_rfl) (by kernel_rfl) (fun _ _ _ h => HP9.out _ _ _ _ _ h) (Or.inl ⟨by kernel_rfl, ?_⟩) hS ?_
        rotate_left
        · intro V hV
          go_simp
          (try with_reducible rfl)
        simp only [put_list, List.set_cons_succ, List.set_cons_zero]
        refine wpAnyH_takeL (i := 7) (v := ?_) rfl (by kernel_rfl) (by kernel_rfl) (by kernel_rfl) (fun _ _ _ h => HP9.out _ _ _ _ _ h) (Or.inl ⟨by kernel_rfl, ?_⟩) hS ?_
        rotate_left
        · intro V hV
          go_simp
          (try with_reducible rfl)
        simp only [put_list, List.set_cons_succ, List.set_cons_zero]
        refine wpAnyH_takeL (i := 8) (v := ?_) rfl (by kernel_rfl) (by kernel_rfl) (by kernel_rfl) (fun _ _ _ h => HP9.out _ _ _ _ _ h) (Or.inl ⟨by kernel_rfl, ?_⟩) hS ?_
        rotate_left
        · intro V hV
          go_simp
          (try with_reducible rfl)
        simp only [put_list, List.set_cons_succ, List.set_cons_zero]
        exact hq
      intro x7 B6 hS lB6 hB6
      simp only [List.set_cons_succ, List.set_cons_zero]
      refine wpAnyH_ready (rs := [10]) (by kernel_rfl) (by simp) (AllReadyH.cons rfl (fun K hK => ?_) AllReadyH.nil)
      refine ite_wp (by kernel_rfl) ?_
      refine wp_store_midN 34 (.tmp 8) (.tmp 32) rfl rfl (B6) 0 (P4.pt (P4.k0) (P4.k0) (true)) rfl rfl (there_of hB6 (P4.zcp_size.trans (P4.pt_size _ _ _).symm)) (P4.infoA (P4.pt_size _ _ _)) (P4.pt_one _ _ _) ?_
      have hB69 := blk_sets (P4.pt (P4.k0) (P4.k0) (true)).toList 0 hB6
      rw [putAll_eq (P4.zcp_size.trans (P4.pt_size _ _ _).symm)] at hB69
      have hB1 := But.sets (P4.pt (P4.k0) (P4.k0) (true)).toList 0 (But.refl B6 x7)
      have hSB := hS.trans (hB1.below.mono lB6)
      clear hB1 hB6
      have hB6 := hB69
      clear hB69
      generalize World.setCells x7 B6 0 (P4.pt (P4.k0) (P4.k0) (true)).toList = x8 at *
      refine hK.out _ _ hSB (fun hS => ?_)
      clear hK K hSB
      refine wpAnyH_takeL (i := 11) (v := ?_) rfl (by kernel_rfl) (by kernel_rfl) (by kernel_rfl) (fun _ _ _ h => HP9.out _ _ _ _ _ h) (Or.inl ⟨by kernel_rfl, ?_⟩) hS ?_
      rotate_left
      · intro V hV
        go_simp
        (try with_reducible rfl)
      simp only [put_list, List.set_cons_succ, List.set_cons_zero]
      refine wpAnyH_done (by kernel_rfl) ?_ _
      (try simp only [put_none])
      refine HK1.out _ _ ?_
      clear HK1 K1
      have HG9 := hideP (HG.out.below hS)
      have H09 := hideP ((hS.block _ (lt_of_block H0.out)).trans H0.out)
      have H19 := hideP ((hS.block _ (lt_of_block H1.out)).trans H1.out)
      have HBW9 := hideP (HBW.out.trans (hS.mono (Nat.le_of_lt (lt_of_block H0.out))))
      have oB6 : B1 < B6 := by have := lt_of_block H1.out; omega
      clear hS HG HBW H0 H1 lB6
      have HG := HG9
      clear HG9
      have HBW := HBW9
      clear HBW9
      have H0 := H09
      clear H09
      have H1 := H19
      clear H19
      have HB6 := hideP hB6
      clear hB6
      as_aux_lemma =>
        refine wp_seqH (fun K1 HK1 => ?_)
        refine wp_region_heldS (S := fun V => Below x8.heap.size x8 V) (by kernel_rfl) (Below.refl _ _).drew (fun hS => ?_)
        refine wpAnyH_takeL (i := 0) (v := ?_) rfl (by kernel_rfl) (by kernel_rfl) (by kernel_rfl) (fun _ _ _ h => HP9.out _ _ _ _ _ h) (Or.inl ⟨by kernel_rfl, ?_⟩) hS ?_
        rotate_left
        · intro V hV
          go_simp
          (try with_reducible rfl)
        simp only [put_list, List.set_cons_succ, List.set_cons_zero]
        refine wpAnyH_takeL (i := 1) (v := .agg (pn a b c d i)) rfl (by kernel_rfl) (by kernel_rfl) (by kernel_rfl) (fun _ _ _ h => HP9.out _ _ _ _ _ h) (yields_loadC (by kernel_rfl) 30 _ rfl (N) (0) rfl (pn a b c d i) _ (fun V hV => rangeOf ((hV.block _ (lt_of_block H0.out)).trans H0.out)) underPn rfl (infoPn (pn_size _ _ _ _ _))) hS ?_
        simp only [put_list, List.set_cons_succ, List.set_cons_zero]
        refine wpAnyH_takeL (i := 3) (v := .agg (W4.cs (limb k))) rfl (by kernel_rfl) (by kernel_rfl) (by kernel_rfl) (fun _ _ _ h => HP9.out _ _ _ _ _ h) (yields_loadC (by kernel_rfl) 65 _ rfl (B1) (0) rfl (W4.cs (limb k)) _ (fun V hV => rangeOf ((hV.block _ (lt_of_block H1.out)).trans H1.out)) P4.underWd rfl (P4.infoWd (W4.cs_size _))) hS ?_
        simp only [put_list, List.set_cons_succ, List.set_cons_zero]
        refine regionR (r := 2) 3 2 (fun jz => match jz with | 0 => 2 | _ => 4) (fun jz => match jz with | 0 => 37 | _ => 39) (fun jz => match jz with | 0 => .agg (Q4.pt ((lo4 a, lo4 b)) ((lo4 c, lo4 d)) (i)) | _ => .tuple #[.agg (Q4.pt (Q4.k0) (Q4.k0) (true)), .int .i64 3]) (fun iz pz => #[true, true, decide (0 < iz), true, decide (1 < iz), false, false, false, pz, false, false] : Nat → Bool → Array Bool) (fun pz => #[true, true, true, true, true, true, true, true, pz, false, false] : Bool → Array Bool) ?Tq2 #[.int .u64 0, .int .u64 0, .int .u64 0, .int .u64 0, .int .u64 0, .int .u64 0, .int .u64 0, .int .u64 0, .int .u64 0, .int .u64 0, .int .u64 0, .int .u64 0, .int .u64 0, .int .u64 0, .int .u64 0, .int .u64 0, .bool false] 49 8 10 (by kernel_rfl) (by decide) (by kernel_rfl) hS ?hc2 ?h12 ?hq02 ?hq12 ?hend2
        case hc2 =>
          intro iz hi T w2 K hW2 hT hK
          match iz, hi with
          | 0, _ =>
            have t36 : T[36]? = some (.agg (pn a b c d i)) := hT 36 (by decide)
            refine wpOp_stepT (i := 2) rfl (fun K' hK' => ?_)
            refine ite_wp (by kernel_rfl) ?_
            refine wp_callD (av := #[.agg (pn a b c d i)]) _ _ 37 rfl rfl (by simp only [List.map_toArray, List.map_cons, List.map_nil, eval_get t36]) (enters_of Tryz.func45 (by kernel_rfl) rfl) (bn2_any a b c d i _) ?_
            intro w3 hb
            exact hK' _ _ (hK w3 hb)
          | 1, _ =>
            have t35 : T[35]? = some (vv Z n) := hT 35 (by decide)
            have t37 : T[37]? = some (.agg (Q4.pt ((lo4 a, lo4 b)) ((lo4 c, lo4 d)) (i))) := hT 37 (by decide)
            have t38 : T[38]? = some (.agg (W4.cs (limb k))) := hT 38 (by decide)
            refine wpOp_stepT (i := 4) rfl (fun K' hK' => ?_)
            refine ite_wp (by kernel_rfl) ?_
            refine wp_callD (av := #[vv Z n, .agg (Q4.pt ((lo4 a, lo4 b)) ((lo4 c, lo4 d)) (i)), .agg (W4.cs (limb k))]) _ _ 39 rfl rfl (by simp only [List.map_toArray, List.map_cons, List.map_nil, eval_get t35, eval_get t37, eval_get t38]) (enters_of Tryz.func49 (by kernel_rfl) rfl) (Q4.MulN _ _ _ _ ((HG.out.below hW2).nc n)) ?_
            intro w3 hb
            exact hK' _ _ (hK w3 hb)
          | k' + 2, h => exact absurd h (by omega)
        case h12 =>
          intro T w2 K hK
          refine wpOp_stepT rfl (fun K' hK' => ?_)
          have HK' := hideP hK'
          have HK9 := hideP hK
          clear hK hK'
          go_simp
          exact HK'.out _ _ HK9.out
        case hq02 =>
          intro w2 hS hq
          simp only [TC, List.set_cons_succ, List.set_cons_zero]
          refine wpAnyH_takeL (i := 5) (v := ?_) rfl (by kernel_rfl) (by kernel_rfl) (by kernel_rfl) (fun _ _ _ h => HP9.out _ _ _ _ _ h) (Or.inl ⟨by kernel_rfl, ?_⟩) hS ?_
          rotate_left
          · intro V hV
            go_simp
            (try with_reducible rfl)
          simp only [put_list, List.set_cons_succ, List.set_cons_zero]
          refine wpAnyH_takeL (i := 6) (v := ?_) rfl (by kernel_rfl) (by kernel_rfl) (by kernel_rfl) (fun _ _ _ h => HP9.out _ _ _ _ _ h) (Or.inl ⟨by kernel_rfl, ?_⟩) hS ?_
          rotate_left
          · intro V hV
            go_simp
            (try with_reducible rfl)
          simp only [put_list, List.set_cons_succ, List.set_cons_zero]
          refine wpAnyH_takeL (i := 7) (v := ?_) rfl (by kernel_rfl) (by kernel_rfl) (by kernel_rfl) (fun _ _ _ h => HP9.out _ _ _ _ _ h) (Or.inl ⟨by kernel_rfl, ?_⟩) hS ?_
          rotate_left
          · intro V hV
            go_simp
            (try with_reducible rfl)
          simp only [put_list, List.set_cons_succ, List.set_cons_zero]
          exact hq
        case hq12 =>
          intro w2 b1 hS hq
          simp only [TC, List.set_cons_succ, List.set_cons_zero]
          refine wpAnyH_takeL (i := 5) (v := ?_) rfl (by kernel_rfl) (by kernel_rfl) (by kernel_rfl) (fun _ _ _ h => HP9.out _ _ _ _ _ h) (Or.inl ⟨by kernel_rfl, ?_⟩) hS ?_
          rotate_left
          · intro V hV
            go_simp
            (try with_reducible rfl)
          simp only [put_list, List.set_cons_succ, List.set_cons_zero]
          refine wpAnyH_takeL (i := 6) (v := ?_) rfl (by kernel_rfl) (by kernel_rfl) (by kernel_rfl) (fun _ _ _ h => HP9.out _ _ _ _ _ h) (Or.inl ⟨by kernel_rfl, ?_⟩) hS ?_
          rotate_left
          · intro V hV
            go_simp
            (try with_reducible rfl)
          simp only [put_list, List.set_cons_succ, List.set_cons_zero]
          refine wpAnyH_takeL (i := 7) (v := ?_) rfl (by kernel_rfl) (by kernel_rfl) (by kernel_rfl) (fun _ _ _ h => HP9.out _ _ _ _ _ h) (Or.inl ⟨by kernel_rfl, ?_⟩) hS ?_
          rotate_left
          · intro V hV
            go_simp
            (try with_reducible rfl)
          simp only [put_list, List.set_cons_succ, List.set_cons_zero]
          exact hq
        intro x10 B9 hS lB9 hB9
        simp only [List.set_cons_succ, List.set_cons_zero]
        refine wpAnyH_ready (rs := [9]) (by kernel_rfl) (by simp) (AllReadyH.cons rfl (fun K hK => ?_) AllReadyH.nil)
        refine ite_wp (by kernel_rfl) ?_
        refine wp_store_midN 49 (.tmp 10) (.tmp 40) rfl rfl (B9) 0 (Q4.pt (Q4.k0) (Q4.k0) (true)) rfl rfl (there_of hB9 (Q4.zcp_size.trans (Q4.pt_size _ _ _).symm)) (Q4.infoA (Q4.pt_size _ _ _)) (Q4.pt_one _ _ _) ?_
        have hB99 := blk_sets (Q4.pt (Q4.k0) (Q4.k0) (true)).toList 0 hB9
        rw [putAll_eq (Q4.zcp_size.trans (Q4.pt_size _ _ _).symm)] at hB99
        have hB1 := But.sets (Q4.pt (Q4.k0) (Q4.k0) (true)).toList 0 (But.refl B9 x10)
        have hSB := hS.trans (hB1.below.mono lB9)
        clear hB1 hB9
        have hB9 := hB99
        clear hB99
        generalize World.setCells x10 B9 0 (Q4.pt (Q4.k0) (Q4.k0) (true)).toList = x11 at *
        refine hK.out _ _ hSB (fun hS => ?_)
        clear hK K hSB
        refine wpAnyH_takeL (i := 10) (v := ?_) rfl (by kernel_rfl) (by kernel_rfl) (by kernel_rfl) (fun _ _ _ h => HP9.out _ _ _ _ _ h) (Or.inl ⟨by kernel_rfl, ?_⟩) hS ?_
        rotate_left
        · intro V hV
          go_simp
          (try with_reducible rfl)
        simp only [put_list, List.set_cons_succ, List.set_cons_zero]
        refine wpAnyH_done (by kernel_rfl) ?_ _
        (try simp only [put_none])
        refine HK1.out _ _ ?_
        clear HK1 K1
        have HG9 := hideP (HG.out.below hS)
        have H09 := hideP ((hS.block _ (lt_of_block H0.out)).trans H0.out)
        have H19 := hideP ((hS.block _ (lt_of_block H1.out)).trans H1.out)
        have HB69 := hideP ((hS.block _ (lt_of_block HB6.out)).trans HB6.out)
        have HBW9 := hideP (HBW.out.trans (hS.mono (Nat.le_of_lt (lt_of_block H0.out))))
        have oB9 : B6 < B9 := by have := lt_of_block HB6.out; omega
        clear hS HG HBW H0 H1 HB6 lB9
        have HG := HG9
        clear HG9
        have HBW := HBW9
        clear HBW9
        have H0 := H09
        clear H09
        have H1 := H19
        clear H19
        have HB6 := HB69
        clear HB69
        have HB9 := hideP hB9
        clear hB9
        as_aux_lemma =>
          refine wp_seqH (fun K1 HK1 => ?_)
          refine wp_region_list ?_
          have hS := Below.refl x11.heap.size x11
          refine wpList_oper rfl (fun K hK => ?_)
          go_simp
          refine hK _ _ ?_
          clear hK K
          refine wpList_oper rfl (fun K hK => ?_)
          refine wp_load_midD 30 (.tmp 2) 44 rfl rfl (N) (0) (pn a b c d i) rfl _ (rangeOf ((hS.block _ (lt_of_block H0.out)).trans H0.out)) underPn rfl (by rw [Array.length_toList]; exact infoPn (pn_size _ _ _ _ _)) ?_
          refine hK _ _ ?_
          clear hK K
          simp only [List.set_cons_succ, List.set_cons_zero]
          refine wpList_oper rfl (fun K hK => ?_)
          refine wp_callD (av := #[.agg (pn a b c d i)]) _ _ 45 rfl rfl (by simp only [List.map_toArray, List.map_cons, List.map_nil]; rfl) (enters_of Tryz.func33 (by kernel_rfl) rfl) (bn1_any a b c d i _) ?_
          intro x12 hbc
          refine hK _ _ ?_
          clear hK K
          have hS9 := hS.trans (hbc.mono hS.size)
          clear hS hbc
          have hS := hS9
          clear hS9
          simp only [List.set_cons_succ, List.set_cons_zero]
          refine wpList_oper rfl (fun K hK => ?_)
          refine wp_call2D (.tmp 43) (.tmp 45) _ 46 rfl rfl rfl rfl (enters_of Tryz.func41 (by kernel_rfl) rfl) (P4.NegN _ _ _ ((HG.out.below hS).nc n)) ?_
          intro x13 hbc
          refine hK _ _ ?_
          clear hK K
          have hS9 := hS.trans (hbc.mono hS.size)
          clear hS hbc
          have hS := hS9
          clear hS9
          simp only [List.set_cons_succ, List.set_cons_zero]
          refine wpList_oper rfl (fun K hK => ?_)
          go_simp
          refine hK _ _ ?_
          clear hK K
          refine wpList_oper rfl (fun K hK => ?_)
          go_simp
          refine hK _ _ ?_
          clear hK K
          refine wpList_oper rfl (fun K hK => ?_)
          go_simp
          refine hK _ _ ?_
          clear hK K
          refine wpList_oper rfl (fun K hK => ?_)
          go_simp
          refine hK _ _ ?_
          clear hK K
          refine at_worldL (fun x15 hw9 => ?_)
          have hB14 := heap_new x13 (.cells #[.int .u64 0, .int .u64 0, .int .u64 0, .int .u64 0, .int .u64 0, .int .u64 0, .int .u64 0, .int .u64 0, .bool false] 34 (0, 0))
          have lB14 := hS.size
          have hS9 := hS.alloc hS.size (.cells #[.int .u64 0, .int .u64 0, .int .u64 0, .int .u64 0, .int .u64 0, .int .u64 0, .int .u64 0, .int .u64 0, .bool false] 34 (0, 0))
          rw [← hw9] at hB14 hS9
          clear hS hw9
          have hS := hS9
          clear hS9
          generalize x13.heap.size = B14 at *
          refine wpList_store_midD rfl 34 (.tmp 12) (.tmp 47) rfl rfl (B14) 0 (P4.pt (P4.k0) (P4.k0) (true)) rfl rfl (there_of hB14 (P4.zcp_size.trans (P4.pt_size _ _ _).symm)) (P4.infoA (P4.pt_size _ _ _)) (P4.pt_one _ _ _) ?_
          have hB149 := blk_sets (P4.pt (P4.k0) (P4.k0) (true)).toList 0 hB14
          rw [putAll_eq (P4.zcp_size.trans (P4.pt_size _ _ _).symm)] at hB149
          have hB1 := But.sets (P4.pt (P4.k0) (P4.k0) (true)).toList 0 (But.refl B14 x15)
          have hSB := hS.trans (hB1.below.mono lB14)
          clear hB1 hB14 hS
          have hB14 := hB149
          have hS := hSB
          clear hB149 hSB
          generalize World.setCells x15 B14 0 (P4.pt (P4.k0) (P4.k0) (true)).toList = x16 at *
          refine wpList_oper rfl (fun K hK => ?_)
          go_simp
          refine hK _ _ ?_
          clear hK K
          refine wpList_nil ?_
          refine HK1.out _ _ ?_
          clear HK1 K1
          have HG9 := hideP (HG.out.below hS)
          have H09 := hideP ((hS.block _ (lt_of_block H0.out)).trans H0.out)
          have H19 := hideP ((hS.block _ (lt_of_block H1.out)).trans H1.out)
          have HB69 := hideP ((hS.block _ (lt_of_block HB6.out)).trans HB6.out)
          have HB99 := hideP ((hS.block _ (lt_of_block HB9.out)).trans HB9.out)
          have HBW9 := hideP (HBW.out.trans (hS.mono (Nat.le_of_lt (lt_of_block H0.out))))
          have oB14 : B9 < B14 := by have := lt_of_block HB9.out; omega
          clear hS HG HBW H0 H1 HB6 HB9 lB14
          have HG := HG9
          clear HG9
          have HBW := HBW9
          clear HBW9
          have H0 := H09
          clear H09
          have H1 := H19
          clear H19
          have HB6 := HB69
          clear HB69
          have HB9 := HB99
          clear HB99
          have HB14 := hideP hB14
          clear hB14
          as_aux_lemma =>
            refine wp_seqH (fun K1 HK1 => ?_)
            refine wp_region_list ?_
            have hS := Below.refl x16.heap.size x16
            refine wpList_oper rfl (fun K hK => ?_)
            go_simp
            refine hK _ _ ?_
            clear hK K
            refine wpList_oper rfl (fun K hK => ?_)
            refine wp_callD (av := #[vv Z n]) _ _ 50 rfl rfl (by simp only [List.map_toArray, List.map_cons, List.map_nil]; rfl) (enters_of Tryz.func16 (by kernel_rfl) rfl) (P4.BaseN ((HG.out.below hS).nc n)) ?_
            intro x17 hbc
            refine hK _ _ ?_
            clear hK K
            have hS9 := hS.trans (hbc.mono hS.size)
            clear hS hbc
            have hS := hS9
            clear hS9
            simp only [List.set_cons_succ, List.set_cons_zero]
            refine wpList_oper rfl (fun K hK => ?_)
            refine wp_fieldD 34 (.tmp 50) 2 51 rfl rfl rfl (field4 _ _ _ _) ?_
            refine hK _ _ ?_
            clear hK K
            simp only [List.set_cons_succ, List.set_cons_zero]
            refine wpList_oper rfl (fun K hK => ?_)
            go_simp
            refine hK _ _ ?_
            clear hK K
            refine wpList_oper rfl (fun K hK => ?_)
            go_simp
            refine hK _ _ ?_
            clear hK K
            as_aux_lemma =>
              refine wpList_on (by kernel_rfl) (fun K hK => ?_)
              go_simp
              refine hK _ _ ?_
              clear hK K
              refine wpList_on (by kernel_rfl) (fun K hK => ?_)
              refine wp_callD (av := #[vv Z n]) _ _ 55 rfl rfl (by simp only [List.map_toArray, List.map_cons, List.map_nil]; rfl) (enters_of Tryz.func20 (by kernel_rfl) rfl) (Q4.BaseN ((HG.out.below hS).nc n)) ?_
              intro x18 hbc
              refine hK _ _ ?_
              clear hK K
              have hS9 := hS.trans (hbc.mono hS.size)
              clear hS hbc
              have hS := hS9
              clear hS9
              simp only [List.set_cons_succ, List.set_cons_zero]
              refine wpList_on (by kernel_rfl) (fun K hK => ?_)
              refine wp_fieldD 49 (.tmp 55) 2 56 rfl rfl rfl (field8 _ _ _ _) ?_
              refine hK _ _ ?_
              clear hK K
              simp only [List.set_cons_succ, List.set_cons_zero]
              refine wpList_on (by kernel_rfl) (fun K hK => ?_)
              go_simp
              refine hK _ _ ?_
              clear hK K
              refine wpList_oper rfl (fun K hK => ?_)
              go_simp
              refine hK _ _ ?_
              clear hK K
              as_aux_lemma =>
                refine wpList_oper rfl (fun K hK => ?_)
                go_simp
                refine hK _ _ ?_
                clear hK K
                refine wpList_on (by kernel_rfl) (fun K hK => ?_)
                go_simp
                refine hK _ _ ?_
                clear hK K
                refine wpList_on (by kernel_rfl) (fun K hK => ?_)
                refine wp_load_midD 30 (.tmp 2) 61 rfl rfl (N) (0) (pn a b c d i) rfl _ (rangeOf ((hS.block _ (lt_of_block H0.out)).trans H0.out)) underPn rfl (by rw [Array.length_toList]; exact infoPn (pn_size _ _ _ _ _)) ?_
                refine hK _ _ ?_
                clear hK K
                simp only [List.set_cons_succ, List.set_cons_zero]
                refine wpList_on (by kernel_rfl) (fun K hK => ?_)
                refine wp_callD (av := #[.agg (pn a b c d i)]) _ _ 62 rfl rfl (by simp only [List.map_toArray, List.map_cons, List.map_nil]; rfl) (enters_of Tryz.func33 (by kernel_rfl) rfl) (bn1_any a b c d i _) ?_
                intro x19 hbc
                refine hK _ _ ?_
                clear hK K
                have hS9 := hS.trans (hbc.mono hS.size)
                clear hS hbc
                have hS := hS9
                clear hS9
                simp only [List.set_cons_succ, List.set_cons_zero]
                refine wpList_on (by kernel_rfl) (fun K hK => ?_)
                refine wp_call2D (.tmp 60) (.tmp 62) _ 63 rfl rfl rfl rfl (enters_of Tryz.func35 (by kernel_rfl) rfl) (P4.GoodN _ _ _ ((HG.out.below hS).nc n)) ?_
                intro x20 hbc
                refine hK _ _ ?_
                clear hK K
                have hS9 := hS.trans (hbc.mono hS.size)
                clear hS hbc
                have hS := hS9
                clear hS9
                simp only [List.set_cons_succ, List.set_cons_zero]
                as_aux_lemma =>
                  refine wpList_on (by kernel_rfl) (fun K hK => ?_)
                  go_simp
                  refine hK _ _ ?_
                  clear hK K
                  refine wpList_oper rfl (fun K hK => ?_)
                  go_simp
                  refine hK _ _ ?_
                  clear hK K
                  refine wpList_oper rfl (fun K hK => ?_)
                  go_simp
                  refine hK _ _ ?_
                  clear hK K
                  refine wpList_on (by kernel_rfl) (fun K hK => ?_)
                  go_simp
                  refine hK _ _ ?_
                  clear hK K
                  refine wpList_on (by kernel_rfl) (fun K hK => ?_)
                  refine wp_load_midD 30 (.tmp 2) 68 rfl rfl (N) (0) (pn a b c d i) rfl _ (rangeOf ((hS.block _ (lt_of_block H0.out)).trans H0.out)) underPn rfl (by rw [Array.length_toList]; exact infoPn (pn_size _ _ _ _ _)) ?_
                  refine hK _ _ ?_
                  clear hK K
                  simp only [List.set_cons_succ, List.set_cons_zero]
                  as_aux_lemma =>
                    refine wpList_on (by kernel_rfl) (fun K hK => ?_)
                    refine wp_callD (av := #[.agg (pn a b c d i)]) _ _ 69 rfl rfl (by simp only [List.map_toArray, List.map_cons, List.map_nil]; rfl) (enters_of Tryz.func45 (by kernel_rfl) rfl) (bn2_any a b c d i _) ?_
                    intro x21 hbc
                    refine hK _ _ ?_
                    clear hK K
                    have hS9 := hS.trans (hbc.mono hS.size)
                    clear hS hbc
                    have hS := hS9
                    clear hS9
                    simp only [List.set_cons_succ, List.set_cons_zero]
                    refine wpList_on (by kernel_rfl) (fun K hK => ?_)
                    refine wp_call2D (.tmp 67) (.tmp 69) _ 70 rfl rfl rfl rfl (enters_of Tryz.func29 (by kernel_rfl) rfl) (Q4.GroupN _ _ _ ((HG.out.below hS).nc n)) ?_
                    intro x22 hbc
                    refine hK _ _ ?_
                    clear hK K
                    have hS9 := hS.trans (hbc.mono hS.size)
                    clear hS hbc
                    have hS := hS9
                    clear hS9
                    simp only [List.set_cons_succ, List.set_cons_zero]
                    refine wpList_on (by kernel_rfl) (fun K hK => ?_)
                    go_simp
                    refine hK _ _ ?_
                    clear hK K
                    refine wpList_oper rfl (fun K hK => ?_)
                    go_simp
                    refine hK _ _ ?_
                    clear hK K
                    refine wpList_oper rfl (fun K hK => ?_)
                    go_simp
                    refine hK _ _ ?_
                    clear hK K
                    as_aux_lemma =>
                      refine wpList_on (by kernel_rfl) (fun K hK => ?_)
                      go_simp
                      refine hK _ _ ?_
                      clear hK K
                      refine wpList_on (by kernel_rfl) (fun K hK => ?_)
                      go_simp
                      refine hK _ _ ?_
                      clear hK K
                      refine wpList_oper rfl (fun K hK => ?_)
                      go_simp
                      refine hK _ _ ?_
                      clear hK K
                      refine wpList_oper rfl (fun K hK => ?_)
                      go_simp
                      refine hK _ _ ?_
                      clear hK K
                      refine wpList_on (by kernel_rfl) (fun K hK => ?_)
                      go_simp
                      refine hK _ _ ?_
                      clear hK K
                      as_aux_lemma =>
                        refine wpList_on (by kernel_rfl) (fun K hK => ?_)
                        go_simp
                        refine hK _ _ ?_
                        clear hK K
                        refine wpList_oper rfl (fun K hK => ?_)
                        go_simp
                        refine hK _ _ ?_
                        clear hK K
                        refine wpList_oper rfl (fun K hK => ?_)
                        go_simp
                        refine hK _ _ ?_
                        clear hK K
                        refine wpList_on (by kernel_rfl) (fun K hK => ?_)
                        go_simp
                        refine hK _ _ ?_
                        clear hK K
                        refine wpList_on (by kernel_rfl) (fun K hK => ?_)
                        go_simp
                        refine hK _ _ ?_
                        clear hK K
                        as_aux_lemma =>
                          refine wpList_oper rfl (fun K hK => ?_)
                          go_simp
                          refine hK _ _ ?_
                          clear hK K
                          refine wpList_oper rfl (fun K hK => ?_)
                          go_simp
                          refine hK _ _ ?_
                          clear hK K
                          refine wpList_on (by kernel_rfl) (fun K hK => ?_)
                          go_simp
                          refine hK _ _ ?_
                          clear hK K
                          refine wpList_on (by kernel_rfl) (fun K hK => ?_)
                          have hf := P4.pt_i ((hS.block _ (lt_of_block HB6.out)).trans HB6.out)
                          go_simp
                          refine hK _ _ ?_
                          clear hK K hf
                          refine wpList_on (by kernel_rfl) (fun K hK => ?_)
                          go_simp
                          refine hK _ _ ?_
                          clear hK K
                          as_aux_lemma =>
                            refine wpList_oper rfl (fun K hK => ?_)
                            go_simp
                            refine hK _ _ ?_
                            clear hK K
                            refine wpList_oper rfl (fun K hK => ?_)
                            go_simp
                            refine hK _ _ ?_
                            clear hK K
                            refine wpList_on (by kernel_rfl) (fun K hK => ?_)
                            go_simp
                            refine hK _ _ ?_
                            clear hK K
                            refine wpList_on (by kernel_rfl) (fun K hK => ?_)
                            have hf := Q4.pt_i ((hS.block _ (lt_of_block HB9.out)).trans HB9.out)
                            go_simp
                            refine hK _ _ ?_
                            clear hK K hf
                            refine wpList_on (by kernel_rfl) (fun K hK => ?_)
                            go_simp
                            refine hK _ _ ?_
                            clear hK K
                            as_aux_lemma =>
                              refine wpList_oper rfl (fun K hK => ?_)
                              go_simp
                              refine hK _ _ ?_
                              clear hK K
                              refine wpList_oper rfl (fun K hK => ?_)
                              go_simp
                              refine hK _ _ ?_
                              clear hK K
                              refine wpList_on (by kernel_rfl) (fun K hK => ?_)
                              go_simp
                              refine hK _ _ ?_
                              clear hK K
                              refine wpList_on (by kernel_rfl) (fun K hK => ?_)
                              have hf := P4.pt_i ((hS.block _ (lt_of_block HB14.out)).trans HB14.out)
                              go_simp
                              refine hK _ _ ?_
                              clear hK K hf
                              refine wpList_on (by kernel_rfl) (fun K hK => ?_)
                              go_simp
                              refine hK _ _ ?_
                              clear hK K
                              as_aux_lemma =>
                                refine wpList_oper rfl (fun K hK => ?_)
                                go_simp
                                refine hK _ _ ?_
                                clear hK K
                                refine wpList_nil ?_
                                refine HK1.out _ _ ?_
                                clear HK1 K1
                                refine wp_cond_false rfl ?_
                                refine wp_skip ?_
                                refine HK3.out _ _ ?_
                                clear HK3 K3
                                have L9 := hideP (HG.out.below hS)
                                have L0 := hideP ((hS.block _ (lt_of_block H0.out)).trans H0.out)
                                have L1 := hideP ((hS.block _ (lt_of_block H1.out)).trans H1.out)
                                have LB := hideP (HBW.out.trans (hS.mono (Nat.le_of_lt (lt_of_block H0.out))))
                                clear hS HG H0 H1 HBW
                                have e1 := HE1.out
                                have hq9 := HQ9.out
                                clear HQ9 HP9
                                subst hq9
                                go_wp2_with fail
                                exact ⟨⟨n + 1, HLT.out, by go_num, L9, L0, L1, LB⟩, by have := HLT.out; simp [intOf]; omega⟩
    · have hkn : n = 2 := by omega
      subst hkn
      refine wp_seqH (fun K0 HK0 => ?_)
      go_wp2_with fail
      refine HK0.out _ _ ?_
      clear HK0 K0
      refine wp_seqH (fun K4 HK4 => ?_)
      refine wp_cond_false rfl ?_
      go_wp2_with fail
      refine HK2.out _ _ ?_
      go_wp2
      go_ret
      exact ⟨rfl, HBW.out⟩

end Go.Proofs.YtppijhcfodccfaaGreat
