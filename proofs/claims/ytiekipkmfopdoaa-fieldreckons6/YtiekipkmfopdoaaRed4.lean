/-
  A sum below twice the modulus, brought below it.
-/
import Derived.Test.YtiekipkmfopdoaaRing4
namespace Go.Proofs.Ytiekipkmfopdoaa.W4
open Go.RowKit Go.Shelf

theorem red_mod {Z m c : Nat} (hZ : Z < R) (hm : m < R) (hc : Z + R * c < 2 * m) : (Z + R * c) % m = if c = 0 ∧ less1 Z m = 1 then Z else Z + R * less1 Z m - m := by
  unfold less1
  by_cases h0 : c = 0
  · subst h0
    by_cases h1 : Z < m
    · simp [h1, Nat.mod_eq_of_lt h1]
    · have : Z % m = Z - m := by rw [Nat.mod_eq_sub_mod (by omega), Nat.mod_eq_of_lt (by omega)]
      simp [h1, this]
  · have hR : R * 1 ≤ R * c := Nat.mul_le_mul_left _ (by omega)
    have hc1 : c = 1 := by
      apply Nat.le_antisymm _ (by omega)
      apply Nat.le_of_not_lt
      intro h
      have := Nat.mul_le_mul_left R (show 2 ≤ c by omega)
      omega
    subst hc1
    have hl : Z < m := by omega
    rw [Nat.mod_eq_sub_mod (by omega), Nat.mod_eq_of_lt (by omega)]
    simp [hl]

set_option maxHeartbeats 2000000 in
set_option maxRecDepth 100000 in
theorem reduce_any (p m f o r Z c : Nat) (w : World) (hr : RingAt w p m f o r) (hm : m < R) (hZ : Z < R) (hc : Z + R * c < 2 * m) :
    Calls Try.prog 105 #[.pointer (some ⟨p, 0, none⟩), wv Z, .int .u64 c] w fun e w' => e = .returned (wv ((Z + R * c) % m)) ∧ Below w.heap.size w w' := by
  have HC := hideP (fun w => minus_any Z m hZ hm w)
  have hc2 : c ≤ 1 := by
    apply Nat.le_of_not_lt
    intro h
    have := Nat.mul_le_mul_left R (show 2 ≤ c by omega)
    omega
  rw [red_mod hZ hm hc]
  have hl1 : less1 Z m = 0 ∨ less1 Z m = 1 := by unfold less1; split <;> simp
  clear hm hZ hc
  generalize Z + R * less1 Z m - m = D at *
  generalize less1 Z m = b at *
  have hp : p < w.heap.size := hr.lt
  have HR := hideP hr
  clear hr
  unfold wv at HC ⊢
  go_enter Try.func105, Try.ntmps105
  go_wp2_with fail
  rename_i Q' K hK
  have HK := hideP hK
  clear hK
  refine at_world (fun W0 hW0 => ?_)
  have hA : W0.heap[w.heap.size]? = some (.cells (cs (limb Z)) 24 (0, 0)) := by
    rw [hW0]
    exact (heap_old _ _ (by simp)).trans (heap_new _ _)
  have hD : W0.heap[w.heap.size + 1]? = some (.cells (cs (fun _ => 0)) 24 (0, 0)) := by
    rw [hW0]
    exact heap_new1 _ _ _
  have HBW : Hid (Below w.heap.size w W0) := by
    show Below _ _ _
    rw [hW0]
    repeat first | exact Below.refl _ _ | (refine Below.alloc ?_ (by simp <;> omega) _)
  clear hW0
  have HR0 := hideP (HR.out.belowN hp HBW.out)
  have HA := hideP hA
  have HD := hideP hD
  clear hA hD HR
  refine wp_region_heldS (S := fun V => Below W0.heap.size W0 V) (by kernel_rfl) ((Below.refl _ _).drew) (fun hS => ?_)
  refine wpAnyH_takeL (i := 0) (v := .agg (cs (limb Z))) rfl (by kernel_rfl) (by kernel_rfl) (by kernel_rfl) (fun _ _ _ h => h) (yieldsIf_load_mid (by kernel_rfl) 24 _ rfl (w.heap.size) (0) rfl (cs (limb Z)).toList _ (fun V hV => rangeOf ((hV.block _ (lt_of_block HA.out)).trans HA.out)) under rfl (info _)) hS ?_
  simp only [put_list, List.set_cons_succ, List.set_cons_zero]
  refine wpAnyH_takeL (i := 1) (v := ?_) rfl (by kernel_rfl) (by kernel_rfl) (by kernel_rfl) (fun _ _ _ h => h) (Or.inl ⟨by kernel_rfl, ?_⟩) hS ?_
  rotate_left
  · intro V hV
    go_simp
    (try with_reducible rfl)
  simp only [put_list, List.set_cons_succ, List.set_cons_zero]
  refine wpAnyH_takeL (i := 2) (v := ?_) rfl (by kernel_rfl) (by kernel_rfl) (by kernel_rfl) (fun _ _ _ h => h) (Or.inl ⟨by kernel_rfl, ?_⟩) hS ?_
  rotate_left
  · intro V hV
    go_simp
    (try with_reducible rfl)
  simp only [put_list, List.set_cons_succ, List.set_cons_zero]
  refine wpAnyH_takeL (i := 3) (v := ?_) rfl (by kernel_rfl) (by kernel_rfl) (by kernel_rfl) (fun _ _ _ h => h) (Or.inl ⟨by kernel_rfl, ?_⟩) hS ?_
  rotate_left
  · intro V hV
    go_simp
    (try with_reducible rfl)
  simp only [put_list, List.set_cons_succ, List.set_cons_zero]
  refine wpAnyH_takeL (i := 4) (v := .agg (cs (limb m))) rfl (by kernel_rfl) (by kernel_rfl) (by kernel_rfl) (fun _ _ _ h => h) (yieldsIf_load_mid (by kernel_rfl) 24 _ rfl (p) (0) rfl (cs (limb m)).toList _ (fun V hV => (HR0.out.below hV).mod) under rfl (info _)) hS ?_
  simp only [put_list, List.set_cons_succ, List.set_cons_zero]
  refine wpAnyH_ready (rs := [5, 9]) (by kernel_rfl) (by simp) (AllReadyH.cons rfl (fun K hK => ?_) (AllReadyH.cons rfl (fun K hK => ?_) AllReadyH.nil))
  · go_simp
    refine (HC.out _).mono ?_
    rintro e w1 ⟨rfl, hbc⟩
    refine hK.out _ _ (hS.trans (hbc.mono hS.size)) (fun hS => ?_)
    clear hK K hbc
    refine wpAnyH_takeL (i := 6) (v := ?_) rfl (by kernel_rfl) (by kernel_rfl) (by kernel_rfl) (fun _ _ _ h => h) (Or.inl ⟨by kernel_rfl, ?_⟩) hS ?_
    rotate_left
    · intro V hV
      go_simp
      (try with_reducible rfl)
    simp only [put_list, List.set_cons_succ, List.set_cons_zero]
    refine wpAnyH_takeL (i := 7) (v := ?_) rfl (by kernel_rfl) (by kernel_rfl) (by kernel_rfl) (fun _ _ _ h => h) (Or.inl ⟨by kernel_rfl, ?_⟩) hS ?_
    rotate_left
    · intro V hV
      go_simp
      (try with_reducible rfl)
    simp only [put_list, List.set_cons_succ, List.set_cons_zero]
    refine wpAnyH_takeL (i := 8) (v := ?_) rfl (by kernel_rfl) (by kernel_rfl) (by kernel_rfl) (fun _ _ _ h => h) (Or.inl ⟨by kernel_rfl, ?_⟩) hS ?_
    rotate_left
    · intro V hV
      go_simp
      (try with_reducible rfl)
    simp only [put_list, List.set_cons_succ, List.set_cons_zero]
    refine wpAnyH_ready (rs := [9]) (by kernel_rfl) (by simp) (AllReadyH.cons rfl (fun K hK => ?_) AllReadyH.nil)
    go_simp
    refine hK.out _ _ (hS.alloc hS.size _) (fun hS2 => ?_)
    clear hK K
    refine at_worldH (fun w2 hw2 => ?_)
    have h1 : w2.heap[w1.heap.size]? = some (.cells (cs (fun _ => 0)) 24 (0, 0)) := by rw [hw2]; exact heap_new _ _
    have l1 := hS.size
    rw [← hw2] at hS2
    clear hw2 hS
    have hS := hS2
    clear hS2
    generalize hbb : w1.heap.size = b1 at h1 l1 ⊢
    clear hbb
    refine wpAnyH_ready (rs := [10]) (by kernel_rfl) (by simp) (AllReadyH.cons rfl (fun K hK => ?_) AllReadyH.nil)
    refine ite_wp (by kernel_rfl) ?_
    refine wp_store_midN 24 (.tmp 7) (.tmp 16) rfl rfl b1 0 (cs (limb D)) rfl rfl (there_cs h1 _) (info _) (one _) ?_
    have g1 := blk_sets (cs (limb D)).toList 0 h1
    rw [putAll_cs] at g1
    have hB1 := But.sets (cs (limb D)).toList 0 (But.refl b1 w2)
    have hSB := hS.trans (hB1.below.mono l1)
    clear h1 hB1
    generalize w2.setCells b1 0 (cs (limb D)).toList = w3 at g1 hSB ⊢
    refine hK.out _ _ hSB (fun hS => ?_)
    clear hK K hSB
    refine wpAnyH_ready (rs := [11]) (by kernel_rfl) (by simp) (AllReadyH.cons rfl (fun K hK => ?_) AllReadyH.nil)
    go_simp
    refine hK.out _ _ hS (fun hS => ?_)
    clear hK K
    refine wpAnyH_done (by kernel_rfl) ?_ _
    (try simp only [put_none])
    have HBS := hideP (HBW.out.trans (hS.mono HBW.out.size))
    have HA3 := hideP ((hS.block _ (lt_of_block HA.out)).trans HA.out)
    have HD3 := hideP ((hS.block _ (lt_of_block HD.out)).trans HD.out)
    have HG := hideP g1
    clear g1 hS l1
    refine HK.out _ _ ?_
    refine wp_seqH (fun K1 HK1 => ?_)
    refine wp_seqH (fun K2 HK2 => ?_)
    by_cases hc0 : c = 0
    · subst hc0
      rcases hl1 with rfl | rfl
      · go_wp2_with fail
        refine HK2.out _ _ ?_
        refine wp_cond_false rfl (wp_skip ?_)
        refine HK1.out _ _ ?_
        refine endRowQ (fun _ _ h => h) rfl rfl rfl (by decide) (by show 25 < 26; decide) rfl under rfl (info _) (one _) (rangeOf HG.out) (there_cs HD3.out _) ?_
        intro wS hBut
        exact ⟨rfl, HBS.out.trans (hBut.below.mono (by omega))⟩
      · go_wp2_with fail
        refine HK2.out _ _ ?_
        refine wp_cond_true rfl ?_
        have hQ : ∀ a w, Q' .ret a w → Exit.then K1 Q' .ret a w := fun _ _ h => h
        refine endRowQ hQ rfl rfl rfl (by decide) (by show 24 < 26; decide) rfl under rfl (info _) (one _) (rangeOf HA3.out) (there_cs HD3.out _) ?_
        intro wS hBut
        exact ⟨rfl, HBS.out.trans (hBut.below.mono (by omega))⟩
    · have hc1 : c = 1 := by omega
      subst hc1
      clear hc0 hc2
      go_wp2_with fail
      refine HK2.out _ _ ?_
      refine wp_cond_false rfl (wp_skip ?_)
      refine HK1.out _ _ ?_
      refine endRowQ (fun _ _ h => h) rfl rfl rfl (by decide) (by show 25 < 26; decide) rfl under rfl (info _) (one _) (rangeOf HG.out) (there_cs HD3.out _) ?_
      intro wS hBut
      exact ⟨rfl, HBS.out.trans (hBut.below.mono (by omega))⟩
  · go_simp
    refine hK.out _ _ (hS.alloc hS.size _) (fun hS2 => ?_)
    clear hK K
    refine at_worldH (fun w1 hw1 => ?_)
    have h1 : w1.heap[W0.heap.size]? = some (.cells (cs (fun _ => 0)) 24 (0, 0)) := by rw [hw1]; exact heap_new _ _
    have l1 := Nat.le_refl W0.heap.size
    rw [← hw1] at hS2
    clear hw1 hS
    have hS := hS2
    clear hS2
    refine wpAnyH_ready (rs := [5]) (by kernel_rfl) (by simp) (AllReadyH.cons rfl (fun K hK => ?_) AllReadyH.nil)
    go_simp
    refine (HC.out _).mono ?_
    rintro e w2 ⟨rfl, hbc⟩
    have h2 := (hbc.block _ (lt_of_block h1)).trans h1
    refine hK.out _ _ (hS.trans (hbc.mono hS.size)) (fun hS2 => ?_)
    clear hK K hbc h1 hS
    have hS := hS2
    have h1 := h2
    clear hS2 h2
    refine wpAnyH_takeL (i := 6) (v := ?_) rfl (by kernel_rfl) (by kernel_rfl) (by kernel_rfl) (fun _ _ _ h => h) (Or.inl ⟨by kernel_rfl, ?_⟩) hS ?_
    rotate_left
    · intro V hV
      go_simp
      (try with_reducible rfl)
    simp only [put_list, List.set_cons_succ, List.set_cons_zero]
    refine wpAnyH_takeL (i := 7) (v := ?_) rfl (by kernel_rfl) (by kernel_rfl) (by kernel_rfl) (fun _ _ _ h => h) (Or.inl ⟨by kernel_rfl, ?_⟩) hS ?_
    rotate_left
    · intro V hV
      go_simp
      (try with_reducible rfl)
    simp only [put_list, List.set_cons_succ, List.set_cons_zero]
    refine wpAnyH_takeL (i := 8) (v := ?_) rfl (by kernel_rfl) (by kernel_rfl) (by kernel_rfl) (fun _ _ _ h => h) (Or.inl ⟨by kernel_rfl, ?_⟩) hS ?_
    rotate_left
    · intro V hV
      go_simp
      (try with_reducible rfl)
    simp only [put_list, List.set_cons_succ, List.set_cons_zero]
    refine wpAnyH_ready (rs := [10]) (by kernel_rfl) (by simp) (AllReadyH.cons rfl (fun K hK => ?_) AllReadyH.nil)
    refine ite_wp (by kernel_rfl) ?_
    refine wp_store_midN 24 (.tmp 7) (.tmp 16) rfl rfl (W0.heap.size) 0 (cs (limb D)) rfl rfl (there_cs h1 _) (info _) (one _) ?_
    have g1 := blk_sets (cs (limb D)).toList 0 h1
    rw [putAll_cs] at g1
    have hB1 := But.sets (cs (limb D)).toList 0 (But.refl (W0.heap.size) w2)
    have hSB := hS.trans (hB1.below.mono l1)
    clear h1 hB1
    generalize w2.setCells (W0.heap.size) 0 (cs (limb D)).toList = w3 at g1 hSB ⊢
    refine hK.out _ _ hSB (fun hS => ?_)
    clear hK K hSB
    refine wpAnyH_ready (rs := [11]) (by kernel_rfl) (by simp) (AllReadyH.cons rfl (fun K hK => ?_) AllReadyH.nil)
    go_simp
    refine hK.out _ _ hS (fun hS => ?_)
    clear hK K
    refine wpAnyH_done (by kernel_rfl) ?_ _
    (try simp only [put_none])
    have HBS := hideP (HBW.out.trans (hS.mono HBW.out.size))
    have HA3 := hideP ((hS.block _ (lt_of_block HA.out)).trans HA.out)
    have HD3 := hideP ((hS.block _ (lt_of_block HD.out)).trans HD.out)
    have HG := hideP g1
    clear g1 hS l1
    refine HK.out _ _ ?_
    refine wp_seqH (fun K1 HK1 => ?_)
    refine wp_seqH (fun K2 HK2 => ?_)
    by_cases hc0 : c = 0
    · subst hc0
      rcases hl1 with rfl | rfl
      · go_wp2_with fail
        refine HK2.out _ _ ?_
        refine wp_cond_false rfl (wp_skip ?_)
        refine HK1.out _ _ ?_
        refine endRowQ (fun _ _ h => h) rfl rfl rfl (by decide) (by show 25 < 26; decide) rfl under rfl (info _) (one _) (rangeOf HG.out) (there_cs HD3.out _) ?_
        intro wS hBut
        exact ⟨rfl, HBS.out.trans (hBut.below.mono (by omega))⟩
      · go_wp2_with fail
        refine HK2.out _ _ ?_
        refine wp_cond_true rfl ?_
        have hQ : ∀ a w, Q' .ret a w → Exit.then K1 Q' .ret a w := fun _ _ h => h
        refine endRowQ hQ rfl rfl rfl (by decide) (by show 24 < 26; decide) rfl under rfl (info _) (one _) (rangeOf HA3.out) (there_cs HD3.out _) ?_
        intro wS hBut
        exact ⟨rfl, HBS.out.trans (hBut.below.mono (by omega))⟩
    · have hc1 : c = 1 := by omega
      subst hc1
      clear hc0 hc2
      go_wp2_with fail
      refine HK2.out _ _ ?_
      refine wp_cond_false rfl (wp_skip ?_)
      refine HK1.out _ _ ?_
      refine endRowQ (fun _ _ h => h) rfl rfl rfl (by decide) (by show 25 < 26; decide) rfl under rfl (info _) (one _) (rangeOf HG.out) (there_cs HD3.out _) ?_
      intro wS hBut
      exact ⟨rfl, HBS.out.trans (hBut.below.mono (by omega))⟩

end Go.Proofs.Ytiekipkmfopdoaa.W4
