/-
  A ring that nobody made answers noughts.
-/
import Derived.Test.YtiekipkmfopdoaaNoneM4
namespace Go.Proofs.Ytiekipkmfopdoaa.W4
open Go.RowKit Go.Shelf

theorem eq_refl0 (W : World) : (Op.equalIn 10000 24 (.agg (cs (fun _ => 0))) (.agg (cs (fun _ => 0)))).run Try.prog W = .ok true W := by
  have := eq_wv (X := 0) (Y := 0) (by decide) (by decide) W
  unfold wv at this
  rw [decide_eq_true rfl, cs_zero] at this
  exact this

set_option maxHeartbeats 8000000 in
set_option maxRecDepth 100000 in
theorem fieldNone_any (A : Nat) (_hA : A < R) (w : World) :
    Calls Try.prog 10 #[wv A] w fun r w' => r = .returned (.bool true) ∧ Below w.heap.size w w' := by
  have HAW := hideP awake_any
  have HRT : Hid (∀ v w, NM w v → Calls Try.prog 33 #[v, .agg #[.int .u64 (limb A 0), .int .u64 (limb A 1), .int .u64 (limb A 2), .int .u64 (limb A 3)]] w fun e w' => e = .returned (.tuple #[.agg #[.int .u64 0, .int .u64 0, .int .u64 0, .int .u64 0], .bool false]) ∧ Below w.heap.size w w') := fun v w h => rootNone v (limb A) w h
  rw [wv_lit A]
  go_enter Try.func10, Try.ntmps10
  go_wp2_with fail
  refine at_world_q (fun W0 hW0 => ?_)
  have hb1 : W0.heap[w.heap.size]? = some (.cells (cs (limb A)) 24 (0, 0)) := by
    rw [hW0]
    exact heap_new _ _
  have HBW : Hid (Below w.heap.size w W0) := by
    show Below _ _ _
    rw [hW0]
    repeat first | exact Below.refl _ _ | (refine Below.alloc ?_ (by simp <;> omega) _)
  clear hW0
  refine (HAW.out _).mono ?_
  rintro r w1 ⟨rfl, hb⟩
  have H11 := hideP ((hb.block _ (lt_of_block hb1)).trans hb1)
  have HB1 := hideP (HBW.out.trans (hb.mono HBW.out.size))
  clear hb hb1 HBW HAW
  go_wp2_with fail
  refine at_world (fun W2 hW2 => ?_)
  have h4 : W2.heap[w1.heap.size]? = some (.cells (cs (fun _ => 0)) 24 (0, 0)) := by
    rw [hW2]
    exact (heap_old _ _ (by simp <;> omega)).trans ((heap_old _ _ (by simp)).trans (heap_new _ _))
  have hr : RingAt W2 (w1.heap.size + 1) 0 0 0 0 := ⟨by
    rw [hW2]
    exact (heap_old _ _ (by simp)).trans (heap_new1 _ _ _)⟩
  have hrow : W2.heap[w1.heap.size + 1 + 1]? = some (.cells #[.pointer none, .pointer (some ⟨w1.heap.size + 1, 0, none⟩)] 32 (0, 0)) := by
    rw [hW2]
    exact heap_new2 _ _ _ _
  have hb2 : Below w1.heap.size w1 W2 := by
    rw [hW2]
    repeat first | exact Below.refl _ _ | (refine Below.alloc ?_ (by simp <;> omega) _)
  have H12 := hideP ((hb2.block _ (lt_of_block H11.out)).trans H11.out)
  have HB2 := hideP (HB1.out.trans (hb2.mono HB1.out.size))
  have H4 := hideP h4
  have HRR := hideP hr
  have HROW := hideP hrow
  clear hW2 h4 hr hrow hb2 H11 HB1
  generalize w1.heap.size = b4 at *
  go_loopw [17] (fun i wr => ∃ k : Nat, k ≤ 2 ∧ i = .int .i64 k ∧ Below W2.heap.size W2 wr) (fun i _ => 2 - (intOf i).toNat)
  case atStart => exact ⟨0, Nat.zero_le _, rfl, Below.refl _ _⟩
  case round =>
    obtain ⟨k, hk, rfl, hbr⟩ := hrel
    by_cases hlt : k < 2
    · obtain ⟨v, hcv, hnm⟩ : ∃ v, wr.cell? ⟨b4 + 1 + 1, k, none⟩ = some v ∧ NM wr v := by
        have hrw := (hbr.block _ (lt_of_block HROW.out)).trans HROW.out
        match k, hlt with
        | 0, _ => exact ⟨_, blk_cell hrw rfl, Or.inl rfl⟩
        | 1, _ => exact ⟨_, blk_cell hrw rfl, Or.inr ⟨_, rfl, HRR.out.below hbr⟩⟩
        | j + 2, h => exact absurd h (by omega)
      obtain ⟨q0, q1, q2, q3⟩ := cells ((hbr.block _ (lt_of_block H12.out)).trans H12.out)
      have hlt' : (k : Int) < 2 := by omega
      have e4 : IntKind.i64.wrap ((k : Int) + 1) = (k : Int) + 1 := by rw [IntKind.wrap_i64]; omega
      have HKS : Hid (k + 1 ≤ 2) := hlt
      have HBR := hideP hbr
      have HNR := hideP hnm
      clear hk hlt hbr hnm
      go_wp2_with fail
      refine (HRT.out v _ HNR.out).mono ?_
      rintro r w2 ⟨rfl, hb⟩
      have HB3 := hideP (HBR.out.trans (hb.mono HBR.out.size))
      have HN3 := hideP (HNR.out.below hb)
      clear hb q0 q1 q2 q3 hcv HBR HNR
      go_wp2_with fail
      refine at_world (fun W1 hW1 => ?_)
      have h7 : W1.heap[w2.heap.size]? = some (.cells (cs (fun _ => 0)) 24 (0, 0)) := by
        rw [hW1]
        exact heap_new _ _
      have hb1 : Below w2.heap.size w2 W1 := by
        rw [hW1]
        exact (Below.refl _ _).alloc (Nat.le_refl _) _
      have hbb := HB3.out.trans (hb1.mono HB3.out.size)
      have H1x := hideP ((hbb.block _ (lt_of_block H12.out)).trans H12.out)
      have H4x := hideP ((hbb.block _ (lt_of_block H4.out)).trans H4.out)
      have H7x := hideP h7
      have HNM := hideP (HN3.out.below hb1)
      have HBB := hideP hbb
      clear hW1 h7 hb1 hbb HB3 HN3
      generalize w2.heap.size = b7 at *
      refine wp_region_heldS (S := fun V => Below W1.heap.size W1 V) (by kernel_rfl) ((Below.refl _ _).drew) (fun hS => ?_)
      refine wpAnyH_takeL (i := 0) (v := ?_) rfl (by kernel_rfl) (by kernel_rfl) (by kernel_rfl) (fun _ _ _ h => h) (Or.inl ⟨by kernel_rfl, ?_⟩) hS ?_
      rotate_left
      · intro V hV
        go_simp
        (try with_reducible rfl)
      simp only [put_list, List.set_cons_succ, List.set_cons_zero]
      refine wpAnyH_takeL (i := 2) (v := .agg (cs (fun _ => 0))) rfl (by kernel_rfl) (by kernel_rfl) (by kernel_rfl) (fun _ _ _ h => h) (yieldsIf_load_mid (by kernel_rfl) 24 _ rfl (b4) (0) rfl (cs (fun _ => 0)).toList _ (fun V hV => rangeOf ((hV.block _ (lt_of_block H4x.out)).trans H4x.out)) under rfl (info _)) hS ?_
      simp only [put_list, List.set_cons_succ, List.set_cons_zero]
      refine wpAnyH_ready (rs := [1]) (by kernel_rfl) (by simp) (AllReadyH.cons rfl (fun K hK => ?_) AllReadyH.nil)
      go_simp
      refine (modulusN v _ (HNM.out.below hS)).mono ?_
      rintro r y1 ⟨rfl, hbc⟩
      refine hK.out _ _ (hS.trans (hbc.mono hS.size)) (fun hS2 => ?_)
      clear hbc hS
      have hS := hS2
      clear hS2
      clear hK K
      refine wpAnyH_takeL (i := 3) (v := .bool false) rfl (by kernel_rfl) (by kernel_rfl) (by kernel_rfl) (fun _ _ _ h => h) (Or.inl ⟨by kernel_rfl, ?_⟩) hS ?_
      · intro V hV
        exact exec_neq rfl rfl V (eq_refl0 V)
      simp only [put_list, List.set_cons_succ, List.set_cons_zero]
      refine wpAnyH_takeL (i := 4) (v := ?_) rfl (by kernel_rfl) (by kernel_rfl) (by kernel_rfl) (fun _ _ _ h => h) (Or.inl ⟨by kernel_rfl, ?_⟩) hS ?_
      rotate_left
      · intro V hV
        go_simp
        (try with_reducible rfl)
      simp only [put_list, List.set_cons_succ, List.set_cons_zero]
      refine wpAnyH_takeL (i := 5) (v := ?_) rfl (by kernel_rfl) (by kernel_rfl) (by kernel_rfl) (fun _ _ _ h => h) (Or.inl ⟨by kernel_rfl, ?_⟩) hS ?_
      rotate_left
      · intro V hV
        go_simp
        (try with_reducible rfl)
      simp only [put_list, List.set_cons_succ, List.set_cons_zero]
      refine wpAnyH_takeL (i := 6) (v := .agg (cs (limb A))) rfl (by kernel_rfl) (by kernel_rfl) (by kernel_rfl) (fun _ _ _ h => h) (yieldsIf_load_mid (by kernel_rfl) 24 _ rfl (w.heap.size) (0) rfl (cs (limb A)).toList _ (fun V hV => rangeOf ((hV.block _ (lt_of_block H1x.out)).trans H1x.out)) under rfl (info _)) hS ?_
      simp only [put_list, List.set_cons_succ, List.set_cons_zero]
      refine wpAnyH_takeL (i := 8) (v := .agg (cs (fun _ => 0))) rfl (by kernel_rfl) (by kernel_rfl) (by kernel_rfl) (fun _ _ _ h => h) (yieldsIf_load_mid (by kernel_rfl) 24 _ rfl (b4) (0) rfl (cs (fun _ => 0)).toList _ (fun V hV => rangeOf ((hV.block _ (lt_of_block H4x.out)).trans H4x.out)) under rfl (info _)) hS ?_
      simp only [put_list, List.set_cons_succ, List.set_cons_zero]
      refine wpAnyH_ready (rs := [7]) (by kernel_rfl) (by simp) (AllReadyH.cons rfl (fun K hK => ?_) AllReadyH.nil)
      go_simp
      refine (inN v (limb A) _ (HNM.out.below hS)).mono ?_
      rintro r y2 ⟨rfl, hbc⟩
      refine hK.out _ _ (hS.trans (hbc.mono hS.size)) (fun hS2 => ?_)
      clear hbc hS
      have hS := hS2
      clear hS2
      clear hK K
      refine wpAnyH_takeL (i := 9) (v := .bool false) rfl (by kernel_rfl) (by kernel_rfl) (by kernel_rfl) (fun _ _ _ h => h) (Or.inl ⟨by kernel_rfl, ?_⟩) hS ?_
      · intro V hV
        exact exec_neq rfl rfl V (eq_refl0 V)
      simp only [put_list, List.set_cons_succ, List.set_cons_zero]
      refine wpAnyH_takeL (i := 10) (v := ?_) rfl (by kernel_rfl) (by kernel_rfl) (by kernel_rfl) (fun _ _ _ h => h) (Or.inl ⟨by kernel_rfl, ?_⟩) hS ?_
      rotate_left
      · intro V hV
        go_simp
        (try with_reducible rfl)
      simp only [put_list, List.set_cons_succ, List.set_cons_zero]
      refine wpAnyH_takeL (i := 11) (v := ?_) rfl (by kernel_rfl) (by kernel_rfl) (by kernel_rfl) (fun _ _ _ h => h) (Or.inl ⟨by kernel_rfl, ?_⟩) hS ?_
      rotate_left
      · intro V hV
        go_simp
        (try with_reducible rfl)
      simp only [put_list, List.set_cons_succ, List.set_cons_zero]
      refine wpAnyH_takeL (i := 12) (v := ?_) rfl (by kernel_rfl) (by kernel_rfl) (by kernel_rfl) (fun _ _ _ h => h) (Or.inl ⟨by kernel_rfl, ?_⟩) hS ?_
      rotate_left
      · intro V hV
        go_simp
        (try with_reducible rfl)
      simp only [put_list, List.set_cons_succ, List.set_cons_zero]
      refine wpAnyH_takeL (i := 13) (v := .agg (cs (limb A))) rfl (by kernel_rfl) (by kernel_rfl) (by kernel_rfl) (fun _ _ _ h => h) (yieldsIf_load_mid (by kernel_rfl) 24 _ rfl (w.heap.size) (0) rfl (cs (limb A)).toList _ (fun V hV => rangeOf ((hV.block _ (lt_of_block H1x.out)).trans H1x.out)) under rfl (info _)) hS ?_
      simp only [put_list, List.set_cons_succ, List.set_cons_zero]
      refine wpAnyH_takeL (i := 15) (v := .agg (cs (fun _ => 0))) rfl (by kernel_rfl) (by kernel_rfl) (by kernel_rfl) (fun _ _ _ h => h) (yieldsIf_load_mid (by kernel_rfl) 24 _ rfl (b4) (0) rfl (cs (fun _ => 0)).toList _ (fun V hV => rangeOf ((hV.block _ (lt_of_block H4x.out)).trans H4x.out)) under rfl (info _)) hS ?_
      simp only [put_list, List.set_cons_succ, List.set_cons_zero]
      refine wpAnyH_ready (rs := [14]) (by kernel_rfl) (by simp) (AllReadyH.cons rfl (fun K hK => ?_) AllReadyH.nil)
      go_simp
      refine (outN v (limb A) _ (HNM.out.below hS)).mono ?_
      rintro r y3 ⟨rfl, hbc⟩
      refine hK.out _ _ (hS.trans (hbc.mono hS.size)) (fun hS2 => ?_)
      clear hbc hS
      have hS := hS2
      clear hS2
      clear hK K
      refine wpAnyH_takeL (i := 16) (v := .bool false) rfl (by kernel_rfl) (by kernel_rfl) (by kernel_rfl) (fun _ _ _ h => h) (Or.inl ⟨by kernel_rfl, ?_⟩) hS ?_
      · intro V hV
        exact exec_neq rfl rfl V (eq_refl0 V)
      simp only [put_list, List.set_cons_succ, List.set_cons_zero]
      refine wpAnyH_takeL (i := 17) (v := ?_) rfl (by kernel_rfl) (by kernel_rfl) (by kernel_rfl) (fun _ _ _ h => h) (Or.inl ⟨by kernel_rfl, ?_⟩) hS ?_
      rotate_left
      · intro V hV
        go_simp
        (try with_reducible rfl)
      simp only [put_list, List.set_cons_succ, List.set_cons_zero]
      refine wpAnyH_takeL (i := 18) (v := ?_) rfl (by kernel_rfl) (by kernel_rfl) (by kernel_rfl) (fun _ _ _ h => h) (Or.inl ⟨by kernel_rfl, ?_⟩) hS ?_
      rotate_left
      · intro V hV
        go_simp
        (try with_reducible rfl)
      simp only [put_list, List.set_cons_succ, List.set_cons_zero]
      refine wpAnyH_takeL (i := 19) (v := ?_) rfl (by kernel_rfl) (by kernel_rfl) (by kernel_rfl) (fun _ _ _ h => h) (Or.inl ⟨by kernel_rfl, ?_⟩) hS ?_
      rotate_left
      · intro V hV
        go_simp
        (try with_reducible rfl)
      simp only [put_list, List.set_cons_succ, List.set_cons_zero]
      refine wpAnyH_takeL (i := 20) (v := .agg (cs (limb A))) rfl (by kernel_rfl) (by kernel_rfl) (by kernel_rfl) (fun _ _ _ h => h) (yieldsIf_load_mid (by kernel_rfl) 24 _ rfl (w.heap.size) (0) rfl (cs (limb A)).toList _ (fun V hV => rangeOf ((hV.block _ (lt_of_block H1x.out)).trans H1x.out)) under rfl (info _)) hS ?_
      simp only [put_list, List.set_cons_succ, List.set_cons_zero]
      refine wpAnyH_takeL (i := 21) (v := .agg (cs (limb A))) rfl (by kernel_rfl) (by kernel_rfl) (by kernel_rfl) (fun _ _ _ h => h) (yieldsIf_load_mid (by kernel_rfl) 24 _ rfl (w.heap.size) (0) rfl (cs (limb A)).toList _ (fun V hV => rangeOf ((hV.block _ (lt_of_block H1x.out)).trans H1x.out)) under rfl (info _)) hS ?_
      simp only [put_list, List.set_cons_succ, List.set_cons_zero]
      refine wpAnyH_takeL (i := 23) (v := .agg (cs (fun _ => 0))) rfl (by kernel_rfl) (by kernel_rfl) (by kernel_rfl) (fun _ _ _ h => h) (yieldsIf_load_mid (by kernel_rfl) 24 _ rfl (b4) (0) rfl (cs (fun _ => 0)).toList _ (fun V hV => rangeOf ((hV.block _ (lt_of_block H4x.out)).trans H4x.out)) under rfl (info _)) hS ?_
      simp only [put_list, List.set_cons_succ, List.set_cons_zero]
      refine wpAnyH_ready (rs := [22]) (by kernel_rfl) (by simp) (AllReadyH.cons rfl (fun K hK => ?_) AllReadyH.nil)
      go_simp
      refine (addN v (limb A) (limb A) _ (HNM.out.below hS)).mono ?_
      rintro r y4 ⟨rfl, hbc⟩
      refine hK.out _ _ (hS.trans (hbc.mono hS.size)) (fun hS2 => ?_)
      clear hbc hS
      have hS := hS2
      clear hS2
      clear hK K
      refine wpAnyH_takeL (i := 24) (v := .bool false) rfl (by kernel_rfl) (by kernel_rfl) (by kernel_rfl) (fun _ _ _ h => h) (Or.inl ⟨by kernel_rfl, ?_⟩) hS ?_
      · intro V hV
        exact exec_neq rfl rfl V (eq_refl0 V)
      simp only [put_list, List.set_cons_succ, List.set_cons_zero]
      refine wpAnyH_takeL (i := 25) (v := ?_) rfl (by kernel_rfl) (by kernel_rfl) (by kernel_rfl) (fun _ _ _ h => h) (Or.inl ⟨by kernel_rfl, ?_⟩) hS ?_
      rotate_left
      · intro V hV
        go_simp
        (try with_reducible rfl)
      simp only [put_list, List.set_cons_succ, List.set_cons_zero]
      refine wpAnyH_takeL (i := 26) (v := ?_) rfl (by kernel_rfl) (by kernel_rfl) (by kernel_rfl) (fun _ _ _ h => h) (Or.inl ⟨by kernel_rfl, ?_⟩) hS ?_
      rotate_left
      · intro V hV
        go_simp
        (try with_reducible rfl)
      simp only [put_list, List.set_cons_succ, List.set_cons_zero]
      refine wpAnyH_takeL (i := 27) (v := ?_) rfl (by kernel_rfl) (by kernel_rfl) (by kernel_rfl) (fun _ _ _ h => h) (Or.inl ⟨by kernel_rfl, ?_⟩) hS ?_
      rotate_left
      · intro V hV
        go_simp
        (try with_reducible rfl)
      simp only [put_list, List.set_cons_succ, List.set_cons_zero]
      refine wpAnyH_takeL (i := 28) (v := .agg (cs (limb A))) rfl (by kernel_rfl) (by kernel_rfl) (by kernel_rfl) (fun _ _ _ h => h) (yieldsIf_load_mid (by kernel_rfl) 24 _ rfl (w.heap.size) (0) rfl (cs (limb A)).toList _ (fun V hV => rangeOf ((hV.block _ (lt_of_block H1x.out)).trans H1x.out)) under rfl (info _)) hS ?_
      simp only [put_list, List.set_cons_succ, List.set_cons_zero]
      refine wpAnyH_takeL (i := 29) (v := .agg (cs (limb A))) rfl (by kernel_rfl) (by kernel_rfl) (by kernel_rfl) (fun _ _ _ h => h) (yieldsIf_load_mid (by kernel_rfl) 24 _ rfl (w.heap.size) (0) rfl (cs (limb A)).toList _ (fun V hV => rangeOf ((hV.block _ (lt_of_block H1x.out)).trans H1x.out)) under rfl (info _)) hS ?_
      simp only [put_list, List.set_cons_succ, List.set_cons_zero]
      refine wpAnyH_takeL (i := 31) (v := .agg (cs (fun _ => 0))) rfl (by kernel_rfl) (by kernel_rfl) (by kernel_rfl) (fun _ _ _ h => h) (yieldsIf_load_mid (by kernel_rfl) 24 _ rfl (b4) (0) rfl (cs (fun _ => 0)).toList _ (fun V hV => rangeOf ((hV.block _ (lt_of_block H4x.out)).trans H4x.out)) under rfl (info _)) hS ?_
      simp only [put_list, List.set_cons_succ, List.set_cons_zero]
      refine wpAnyH_ready (rs := [30]) (by kernel_rfl) (by simp) (AllReadyH.cons rfl (fun K hK => ?_) AllReadyH.nil)
      go_simp
      refine (subN v (limb A) (limb A) _ (HNM.out.below hS)).mono ?_
      rintro r y5 ⟨rfl, hbc⟩
      refine hK.out _ _ (hS.trans (hbc.mono hS.size)) (fun hS2 => ?_)
      clear hbc hS
      have hS := hS2
      clear hS2
      clear hK K
      refine wpAnyH_takeL (i := 32) (v := .bool false) rfl (by kernel_rfl) (by kernel_rfl) (by kernel_rfl) (fun _ _ _ h => h) (Or.inl ⟨by kernel_rfl, ?_⟩) hS ?_
      · intro V hV
        exact exec_neq rfl rfl V (eq_refl0 V)
      simp only [put_list, List.set_cons_succ, List.set_cons_zero]
      refine wpAnyH_takeL (i := 33) (v := ?_) rfl (by kernel_rfl) (by kernel_rfl) (by kernel_rfl) (fun _ _ _ h => h) (Or.inl ⟨by kernel_rfl, ?_⟩) hS ?_
      rotate_left
      · intro V hV
        go_simp
        (try with_reducible rfl)
      simp only [put_list, List.set_cons_succ, List.set_cons_zero]
      refine wpAnyH_takeL (i := 34) (v := ?_) rfl (by kernel_rfl) (by kernel_rfl) (by kernel_rfl) (fun _ _ _ h => h) (Or.inl ⟨by kernel_rfl, ?_⟩) hS ?_
      rotate_left
      · intro V hV
        go_simp
        (try with_reducible rfl)
      simp only [put_list, List.set_cons_succ, List.set_cons_zero]
      refine wpAnyH_takeL (i := 35) (v := ?_) rfl (by kernel_rfl) (by kernel_rfl) (by kernel_rfl) (fun _ _ _ h => h) (Or.inl ⟨by kernel_rfl, ?_⟩) hS ?_
      rotate_left
      · intro V hV
        go_simp
        (try with_reducible rfl)
      simp only [put_list, List.set_cons_succ, List.set_cons_zero]
      refine wpAnyH_takeL (i := 36) (v := .agg (cs (limb A))) rfl (by kernel_rfl) (by kernel_rfl) (by kernel_rfl) (fun _ _ _ h => h) (yieldsIf_load_mid (by kernel_rfl) 24 _ rfl (w.heap.size) (0) rfl (cs (limb A)).toList _ (fun V hV => rangeOf ((hV.block _ (lt_of_block H1x.out)).trans H1x.out)) under rfl (info _)) hS ?_
      simp only [put_list, List.set_cons_succ, List.set_cons_zero]
      refine wpAnyH_takeL (i := 38) (v := .agg (cs (fun _ => 0))) rfl (by kernel_rfl) (by kernel_rfl) (by kernel_rfl) (fun _ _ _ h => h) (yieldsIf_load_mid (by kernel_rfl) 24 _ rfl (b4) (0) rfl (cs (fun _ => 0)).toList _ (fun V hV => rangeOf ((hV.block _ (lt_of_block H4x.out)).trans H4x.out)) under rfl (info _)) hS ?_
      simp only [put_list, List.set_cons_succ, List.set_cons_zero]
      refine wpAnyH_ready (rs := [37]) (by kernel_rfl) (by simp) (AllReadyH.cons rfl (fun K hK => ?_) AllReadyH.nil)
      go_simp
      refine (negN v (limb A) _ (HNM.out.below hS)).mono ?_
      rintro r y6 ⟨rfl, hbc⟩
      refine hK.out _ _ (hS.trans (hbc.mono hS.size)) (fun hS2 => ?_)
      clear hbc hS
      have hS := hS2
      clear hS2
      clear hK K
      refine wpAnyH_takeL (i := 39) (v := .bool false) rfl (by kernel_rfl) (by kernel_rfl) (by kernel_rfl) (fun _ _ _ h => h) (Or.inl ⟨by kernel_rfl, ?_⟩) hS ?_
      · intro V hV
        exact exec_neq rfl rfl V (eq_refl0 V)
      simp only [put_list, List.set_cons_succ, List.set_cons_zero]
      refine wpAnyH_takeL (i := 40) (v := ?_) rfl (by kernel_rfl) (by kernel_rfl) (by kernel_rfl) (fun _ _ _ h => h) (Or.inl ⟨by kernel_rfl, ?_⟩) hS ?_
      rotate_left
      · intro V hV
        go_simp
        (try with_reducible rfl)
      simp only [put_list, List.set_cons_succ, List.set_cons_zero]
      refine wpAnyH_takeL (i := 41) (v := ?_) rfl (by kernel_rfl) (by kernel_rfl) (by kernel_rfl) (fun _ _ _ h => h) (Or.inl ⟨by kernel_rfl, ?_⟩) hS ?_
      rotate_left
      · intro V hV
        go_simp
        (try with_reducible rfl)
      simp only [put_list, List.set_cons_succ, List.set_cons_zero]
      refine wpAnyH_takeL (i := 42) (v := ?_) rfl (by kernel_rfl) (by kernel_rfl) (by kernel_rfl) (fun _ _ _ h => h) (Or.inl ⟨by kernel_rfl, ?_⟩) hS ?_
      rotate_left
      · intro V hV
        go_simp
        (try with_reducible rfl)
      simp only [put_list, List.set_cons_succ, List.set_cons_zero]
      refine wpAnyH_takeL (i := 43) (v := .agg (cs (limb A))) rfl (by kernel_rfl) (by kernel_rfl) (by kernel_rfl) (fun _ _ _ h => h) (yieldsIf_load_mid (by kernel_rfl) 24 _ rfl (w.heap.size) (0) rfl (cs (limb A)).toList _ (fun V hV => rangeOf ((hV.block _ (lt_of_block H1x.out)).trans H1x.out)) under rfl (info _)) hS ?_
      simp only [put_list, List.set_cons_succ, List.set_cons_zero]
      refine wpAnyH_takeL (i := 44) (v := .agg (cs (limb A))) rfl (by kernel_rfl) (by kernel_rfl) (by kernel_rfl) (fun _ _ _ h => h) (yieldsIf_load_mid (by kernel_rfl) 24 _ rfl (w.heap.size) (0) rfl (cs (limb A)).toList _ (fun V hV => rangeOf ((hV.block _ (lt_of_block H1x.out)).trans H1x.out)) under rfl (info _)) hS ?_
      simp only [put_list, List.set_cons_succ, List.set_cons_zero]
      refine wpAnyH_takeL (i := 46) (v := .agg (cs (fun _ => 0))) rfl (by kernel_rfl) (by kernel_rfl) (by kernel_rfl) (fun _ _ _ h => h) (yieldsIf_load_mid (by kernel_rfl) 24 _ rfl (b4) (0) rfl (cs (fun _ => 0)).toList _ (fun V hV => rangeOf ((hV.block _ (lt_of_block H4x.out)).trans H4x.out)) under rfl (info _)) hS ?_
      simp only [put_list, List.set_cons_succ, List.set_cons_zero]
      refine wpAnyH_ready (rs := [45]) (by kernel_rfl) (by simp) (AllReadyH.cons rfl (fun K hK => ?_) AllReadyH.nil)
      go_simp
      refine (mulN v (limb A) (limb A) _ (HNM.out.below hS)).mono ?_
      rintro r y7 ⟨rfl, hbc⟩
      refine hK.out _ _ (hS.trans (hbc.mono hS.size)) (fun hS2 => ?_)
      clear hbc hS
      have hS := hS2
      clear hS2
      clear hK K
      refine wpAnyH_takeL (i := 47) (v := .bool false) rfl (by kernel_rfl) (by kernel_rfl) (by kernel_rfl) (fun _ _ _ h => h) (Or.inl ⟨by kernel_rfl, ?_⟩) hS ?_
      · intro V hV
        exact exec_neq rfl rfl V (eq_refl0 V)
      simp only [put_list, List.set_cons_succ, List.set_cons_zero]
      refine wpAnyH_takeL (i := 48) (v := ?_) rfl (by kernel_rfl) (by kernel_rfl) (by kernel_rfl) (fun _ _ _ h => h) (Or.inl ⟨by kernel_rfl, ?_⟩) hS ?_
      rotate_left
      · intro V hV
        go_simp
        (try with_reducible rfl)
      simp only [put_list, List.set_cons_succ, List.set_cons_zero]
      refine wpAnyH_takeL (i := 49) (v := ?_) rfl (by kernel_rfl) (by kernel_rfl) (by kernel_rfl) (fun _ _ _ h => h) (Or.inl ⟨by kernel_rfl, ?_⟩) hS ?_
      rotate_left
      · intro V hV
        go_simp
        (try with_reducible rfl)
      simp only [put_list, List.set_cons_succ, List.set_cons_zero]
      refine wpAnyH_takeL (i := 50) (v := ?_) rfl (by kernel_rfl) (by kernel_rfl) (by kernel_rfl) (fun _ _ _ h => h) (Or.inl ⟨by kernel_rfl, ?_⟩) hS ?_
      rotate_left
      · intro V hV
        go_simp
        (try with_reducible rfl)
      simp only [put_list, List.set_cons_succ, List.set_cons_zero]
      refine wpAnyH_takeL (i := 51) (v := .agg (cs (limb A))) rfl (by kernel_rfl) (by kernel_rfl) (by kernel_rfl) (fun _ _ _ h => h) (yieldsIf_load_mid (by kernel_rfl) 24 _ rfl (w.heap.size) (0) rfl (cs (limb A)).toList _ (fun V hV => rangeOf ((hV.block _ (lt_of_block H1x.out)).trans H1x.out)) under rfl (info _)) hS ?_
      simp only [put_list, List.set_cons_succ, List.set_cons_zero]
      refine wpAnyH_takeL (i := 52) (v := ?_) rfl (by kernel_rfl) (by kernel_rfl) (by kernel_rfl) (fun _ _ _ h => h) (Or.inl ⟨by kernel_rfl, ?_⟩) hS ?_
      rotate_left
      · intro V hV
        go_simp
        (try with_reducible rfl)
      simp only [put_list, List.set_cons_succ, List.set_cons_zero]
      refine wpAnyH_takeL (i := 54) (v := .agg (cs (fun _ => 0))) rfl (by kernel_rfl) (by kernel_rfl) (by kernel_rfl) (fun _ _ _ h => h) (yieldsIf_load_mid (by kernel_rfl) 24 _ rfl (b4) (0) rfl (cs (fun _ => 0)).toList _ (fun V hV => rangeOf ((hV.block _ (lt_of_block H4x.out)).trans H4x.out)) under rfl (info _)) hS ?_
      simp only [put_list, List.set_cons_succ, List.set_cons_zero]
      refine wpAnyH_ready (rs := [53]) (by kernel_rfl) (by simp) (AllReadyH.cons rfl (fun K hK => ?_) AllReadyH.nil)
      go_simp
      refine (expN v (limb A) _ _ (HNM.out.below hS)).mono ?_
      rintro r y8 ⟨rfl, hbc⟩
      refine hK.out _ _ (hS.trans (hbc.mono hS.size)) (fun hS2 => ?_)
      clear hbc hS
      have hS := hS2
      clear hS2
      clear hK K
      refine wpAnyH_takeL (i := 55) (v := .bool false) rfl (by kernel_rfl) (by kernel_rfl) (by kernel_rfl) (fun _ _ _ h => h) (Or.inl ⟨by kernel_rfl, ?_⟩) hS ?_
      · intro V hV
        exact exec_neq rfl rfl V (eq_refl0 V)
      simp only [put_list, List.set_cons_succ, List.set_cons_zero]
      refine wpAnyH_takeL (i := 56) (v := ?_) rfl (by kernel_rfl) (by kernel_rfl) (by kernel_rfl) (fun _ _ _ h => h) (Or.inl ⟨by kernel_rfl, ?_⟩) hS ?_
      rotate_left
      · intro V hV
        go_simp
        (try with_reducible rfl)
      simp only [put_list, List.set_cons_succ, List.set_cons_zero]
      refine wpAnyH_takeL (i := 57) (v := ?_) rfl (by kernel_rfl) (by kernel_rfl) (by kernel_rfl) (fun _ _ _ h => h) (Or.inl ⟨by kernel_rfl, ?_⟩) hS ?_
      rotate_left
      · intro V hV
        go_simp
        (try with_reducible rfl)
      simp only [put_list, List.set_cons_succ, List.set_cons_zero]
      refine wpAnyH_takeL (i := 58) (v := ?_) rfl (by kernel_rfl) (by kernel_rfl) (by kernel_rfl) (fun _ _ _ h => h) (Or.inl ⟨by kernel_rfl, ?_⟩) hS ?_
      rotate_left
      · intro V hV
        go_simp
        (try with_reducible rfl)
      simp only [put_list, List.set_cons_succ, List.set_cons_zero]
      refine wpAnyH_takeL (i := 59) (v := .agg (cs (limb A))) rfl (by kernel_rfl) (by kernel_rfl) (by kernel_rfl) (fun _ _ _ h => h) (yieldsIf_load_mid (by kernel_rfl) 24 _ rfl (w.heap.size) (0) rfl (cs (limb A)).toList _ (fun V hV => rangeOf ((hV.block _ (lt_of_block H1x.out)).trans H1x.out)) under rfl (info _)) hS ?_
      simp only [put_list, List.set_cons_succ, List.set_cons_zero]
      refine wpAnyH_takeL (i := 61) (v := .agg (cs (fun _ => 0))) rfl (by kernel_rfl) (by kernel_rfl) (by kernel_rfl) (fun _ _ _ h => h) (yieldsIf_load_mid (by kernel_rfl) 24 _ rfl (b4) (0) rfl (cs (fun _ => 0)).toList _ (fun V hV => rangeOf ((hV.block _ (lt_of_block H4x.out)).trans H4x.out)) under rfl (info _)) hS ?_
      simp only [put_list, List.set_cons_succ, List.set_cons_zero]
      refine wpAnyH_ready (rs := [60]) (by kernel_rfl) (by simp) (AllReadyH.cons rfl (fun K hK => ?_) AllReadyH.nil)
      go_simp
      refine (invN v (limb A) _ (HNM.out.below hS)).mono ?_
      rintro r y9 ⟨rfl, hbc⟩
      refine hK.out _ _ (hS.trans (hbc.mono hS.size)) (fun hS2 => ?_)
      clear hbc hS
      have hS := hS2
      clear hS2
      clear hK K
      refine wpAnyH_takeL (i := 62) (v := .bool false) rfl (by kernel_rfl) (by kernel_rfl) (by kernel_rfl) (fun _ _ _ h => h) (Or.inl ⟨by kernel_rfl, ?_⟩) hS ?_
      · intro V hV
        exact exec_neq rfl rfl V (eq_refl0 V)
      simp only [put_list, List.set_cons_succ, List.set_cons_zero]
      refine wpAnyH_takeL (i := 63) (v := ?_) rfl (by kernel_rfl) (by kernel_rfl) (by kernel_rfl) (fun _ _ _ h => h) (Or.inl ⟨by kernel_rfl, ?_⟩) hS ?_
      rotate_left
      · intro V hV
        go_simp
        (try with_reducible rfl)
      simp only [put_list, List.set_cons_succ, List.set_cons_zero]
      refine wpAnyH_takeL (i := 64) (v := ?_) rfl (by kernel_rfl) (by kernel_rfl) (by kernel_rfl) (fun _ _ _ h => h) (Or.inl ⟨by kernel_rfl, ?_⟩) hS ?_
      rotate_left
      · intro V hV
        go_simp
        (try with_reducible rfl)
      simp only [put_list, List.set_cons_succ, List.set_cons_zero]
      refine wpAnyH_takeL (i := 65) (v := .agg (cs (fun _ => 0))) rfl (by kernel_rfl) (by kernel_rfl) (by kernel_rfl) (fun _ _ _ h => h) (yieldsIf_load_mid (by kernel_rfl) 24 _ rfl (b7) (0) rfl (cs (fun _ => 0)).toList _ (fun V hV => rangeOf ((hV.block _ (lt_of_block H7x.out)).trans H7x.out)) under rfl (info _)) hS ?_
      simp only [put_list, List.set_cons_succ, List.set_cons_zero]
      refine wpAnyH_takeL (i := 66) (v := .agg (cs (fun _ => 0))) rfl (by kernel_rfl) (by kernel_rfl) (by kernel_rfl) (fun _ _ _ h => h) (yieldsIf_load_mid (by kernel_rfl) 24 _ rfl (b4) (0) rfl (cs (fun _ => 0)).toList _ (fun V hV => rangeOf ((hV.block _ (lt_of_block H4x.out)).trans H4x.out)) under rfl (info _)) hS ?_
      simp only [put_list, List.set_cons_succ, List.set_cons_zero]
      refine wpAnyH_takeL (i := 67) (v := .bool false) rfl (by kernel_rfl) (by kernel_rfl) (by kernel_rfl) (fun _ _ _ h => h) (Or.inl ⟨by kernel_rfl, ?_⟩) hS ?_
      · intro V hV
        exact exec_neq rfl rfl V (eq_refl0 V)
      simp only [put_list, List.set_cons_succ, List.set_cons_zero]
      refine wpAnyH_takeL (i := 68) (v := ?_) rfl (by kernel_rfl) (by kernel_rfl) (by kernel_rfl) (fun _ _ _ h => h) (Or.inl ⟨by kernel_rfl, ?_⟩) hS ?_
      rotate_left
      · intro V hV
        go_simp
        (try with_reducible rfl)
      simp only [put_list, List.set_cons_succ, List.set_cons_zero]
      refine wpAnyH_takeL (i := 69) (v := ?_) rfl (by kernel_rfl) (by kernel_rfl) (by kernel_rfl) (fun _ _ _ h => h) (Or.inl ⟨by kernel_rfl, ?_⟩) hS ?_
      rotate_left
      · intro V hV
        go_simp
        (try with_reducible rfl)
      simp only [put_list, List.set_cons_succ, List.set_cons_zero]
      refine wpAnyH_takeL (i := 70) (v := ?_) rfl (by kernel_rfl) (by kernel_rfl) (by kernel_rfl) (fun _ _ _ h => h) (Or.inl ⟨by kernel_rfl, ?_⟩) hS ?_
      rotate_left
      · intro V hV
        go_simp
        (try with_reducible rfl)
      simp only [put_list, List.set_cons_succ, List.set_cons_zero]
      refine wpAnyH_takeL (i := 71) (v := ?_) rfl (by kernel_rfl) (by kernel_rfl) (by kernel_rfl) (fun _ _ _ h => h) (Or.inl ⟨by kernel_rfl, ?_⟩) hS ?_
      rotate_left
      · intro V hV
        go_simp
        (try with_reducible rfl)
      simp only [put_list, List.set_cons_succ, List.set_cons_zero]
      refine wpAnyH_done (by kernel_rfl) ?_ _
      (try simp only [put_none])
      have HF := hideP (HBB.out.trans (hS.mono HBB.out.size))
      clear hS
      go_wp2_with fail
      refine ⟨⟨k + 1, HKS.out, by go_num, HF.out⟩, by have := HKS.out; simp [intOf]; omega⟩
    · have hnl : ¬ (k : Int) < 2 := by omega
      have HF := hideP (HB2.out.trans (hbr.mono HB2.out.size))
      clear hk hlt hbr
      go_wp2
      go_ret
      exact ⟨rfl, HF.out⟩

end Go.Proofs.Ytiekipkmfopdoaa.W4
