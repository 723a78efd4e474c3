/-
  Powers, inverses and roots in rings.
-/
import Derived.Test.YtppijhcfodccfaaGreatCurveNoneC11
namespace Go.Proofs.YtppijhcfodccfaaGreat.W4
open Go.RowKit Go.Shelf

theorem US.below {w w' : World} {v : Value} {n : Nat} {e : Nat → Nat} (h : US w v n e) (hb : Below w.heap.size w w') : US w' v n e := by
  obtain ⟨h1, h2, ao, c, rfl, hf⟩ := h
  refine ⟨h1, h2, ao, c, rfl, ?_⟩
  rcases hf with hf | ⟨g, h3, h4, h5⟩
  · exact Or.inl hf
  · exact Or.inr ⟨g, h3, Nat.lt_of_lt_of_le h4 hb.size, fun j hj => (hb.cell (p := ⟨g, j, none⟩) h4).trans (h5 j hj)⟩

set_option maxHeartbeats 2000000 in
set_option maxRecDepth 100000 in
theorem inv_any {p m : Nat} {w : World} (hgood : Good w p m) (X : Nat) : Calls Tryz.prog 275 #[.pointer (some ⟨p, 0, none⟩), wv (el m X)] w fun r w' => r = .returned (wv (el m (X ^ (m - 2)))) ∧ Below w.heap.size w w' := by

  have hp := hgood.lt
  obtain ⟨f, hMF, hr⟩ := hgood.ex
  have HIS := hideP (fun w (hr : RingAt w p m f (el m 1) (el m R)) => isMade_good hr hMF)
  have HMF := hideP hMF
  have HR := hideP hr
  clear hr hMF hgood
  unfold wv
  unfold cs
  go_enter Tryz.func275, Tryz.ntmps275
  refine wp_seqH (fun K0 HK0 => ?_)
  go_wp2_with fail
  refine HK0.out _ _ ?_
  clear HK0 K0
  refine at_world (fun W0 hW0 => ?_)
  have hA : W0.heap[w.heap.size]? = some (.cells (cs (limb (el m X))) 32 (0, 0)) := by
    rw [hW0]
    exact ((heap_old _ _ (by simp <;> omega)).trans (heap_new _ _))
  have hD : W0.heap[w.heap.size + 1]? = some (.cells (cs (fun _ => 0)) 32 (0, 0)) := by
    rw [hW0]
    exact heap_new1 _ _ _ 
  have HBW : Hid (Below w.heap.size w W0) := by
    show Below _ _ _
    rw [hW0]
    repeat first | exact Below.refl _ _ | (refine Below.alloc ?_ (by simp <;> omega) _)
  clear hW0
  have HR0 := hideP (HR.out.belowN hp HBW.out)
  have HA := hideP hA
  have HD := hideP hD
  clear HR hA hD
  have nP : p ≠ w.heap.size + 1 := by omega
  have nA : w.heap.size ≠ w.heap.size + 1 := by omega
  have nR : w.heap.size ≤ w.heap.size + 1 := by omega
  generalize hRR : w.heap.size + 1 = R0 at *
  refine wp_seqH (fun K1 HK1 => ?_)
  refine wp_seqH (fun K2 HK2 => ?_)
  go_wp2_with (go_at_call 281; refine (HIS.out _ HR0.out).mono ?_; rintro e w' ⟨rfl, rfl⟩)
  refine HK2.out _ _ ?_
  clear HK2 K2
  refine wp_cond_true rfl ?_
  refine wp_seqH (fun K3 HK3 => ?_)
  have HS2 : Hid (∀ w, Calls Tryz.prog 148 #[.int .u64 (2 : Int)] w fun e w' => e = .returned (wv 2) ∧ Below w.heap.size w w') := fun w => small_any 2 (by decide) w
  have hge := HMF.out.ge
  have hmR := HMF.out.lt
  have HM2 : Hid (m - 2 < R) := (by omega : m - 2 < R)
  have HMI : Hid (∀ w, Calls Tryz.prog 217 #[wv m, wv 2] w fun e w' => e = .returned (.tuple #[wv (m - 2), .int .u64 ((0 : Nat) : Int)]) ∧ Below w.heap.size w w') := fun w => by
    have := minus_any m 2 hmR (by decide) w
    rw [show less1 m 2 = 0 by unfold less1; rw [if_neg (by omega)], Nat.mul_zero, Nat.add_zero] at this
    exact this
  unfold wv at HS2 HMI
  clear hge hmR
  refine wp_region_heldS (S := fun V => Below W0.heap.size W0 V) (by kernel_rfl) ((Below.refl _ _).drew) (fun hS => ?_)
  refine wpAnyH_takeL (i := 0) (v := ?_) rfl (by kernel_rfl) (by kernel_rfl) (by kernel_rfl) (fun _ _ _ h => h) (Or.inl ⟨by kernel_rfl, ?_⟩) hS ?_
  rotate_left
  · intro V hV
    go_simp
    (try with_reducible rfl)
  simp only [put_list, List.set_cons_succ, List.set_cons_zero]
  refine wpAnyH_takeL (i := 1) (v := ?_) rfl (by kernel_rfl) (by kernel_rfl) (by kernel_rfl) (fun _ _ _ h => h) (Or.inl ⟨by kernel_rfl, ?_⟩) hS ?_
  rotate_left
  · intro V hV
    go_simp
    (try with_reducible rfl)
  simp only [put_list, List.set_cons_succ, List.set_cons_zero]
  refine wpAnyH_takeL (i := 2) (v := ?_) rfl (by kernel_rfl) (by kernel_rfl) (by kernel_rfl) (fun _ _ _ h => h) (Or.inl ⟨by kernel_rfl, ?_⟩) hS ?_
  rotate_left
  · intro V hV
    go_simp
    (try with_reducible rfl)
  simp only [put_list, List.set_cons_succ, List.set_cons_zero]
  refine wpAnyH_takeL (i := 3) (v := .agg (cs (limb m))) rfl (by kernel_rfl) (by kernel_rfl) (by kernel_rfl) (fun _ _ _ h => h) (yieldsIf_load_mid (by kernel_rfl) 32 _ rfl (p) (0) rfl (cs (limb m)).toList _ (fun V hV => (HR0.out.below hV).mod) under rfl (info _)) hS ?_
  simp only [put_list, List.set_cons_succ, List.set_cons_zero]
  refine wpAnyH_ready (rs := [4, 9]) (by kernel_rfl) (by simp) (AllReadyH.cons rfl (fun K hK => ?_) (AllReadyH.cons rfl (fun K hK => ?_) AllReadyH.nil))
  · go_simp
    refine (HS2.out _).mono ?_
    rintro e x1 ⟨rfl, hbc⟩
    refine hK.out _ _ (hS.trans (hbc.mono hS.size)) (fun hS2 => ?_)
    clear hK K hbc hS
    have hS := hS2
    clear hS2
    refine wpAnyH_ready (rs := [5, 9]) (by kernel_rfl) (by simp) (AllReadyH.cons rfl (fun K hK => ?_) (AllReadyH.cons rfl (fun K hK => ?_) AllReadyH.nil))
    · go_simp
      refine (HMI.out _).mono ?_
      rintro e x2 ⟨rfl, hbc⟩
      refine hK.out _ _ (hS.trans (hbc.mono hS.size)) (fun hS2 => ?_)
      clear hK K hbc hS
      have hS := hS2
      clear hS2
      refine wpAnyH_takeL (i := 6) (v := ?_) rfl (by kernel_rfl) (by kernel_rfl) (by kernel_rfl) (fun _ _ _ h => h) (Or.inl ⟨by kernel_rfl, ?_⟩) hS ?_
      rotate_left
      · intro V hV
        go_simp
        (try with_reducible rfl)
      simp only [put_list, List.set_cons_succ, List.set_cons_zero]
      refine wpAnyH_takeL (i := 7) (v := ?_) rfl (by kernel_rfl) (by kernel_rfl) (by kernel_rfl) (fun _ _ _ h => h) (Or.inl ⟨by kernel_rfl, ?_⟩) hS ?_
      rotate_left
      · intro V hV
        go_simp
        (try with_reducible rfl)
      simp only [put_list, List.set_cons_succ, List.set_cons_zero]
      refine wpAnyH_takeL (i := 8) (v := ?_) rfl (by kernel_rfl) (by kernel_rfl) (by kernel_rfl) (fun _ _ _ h => h) (Or.inl ⟨by kernel_rfl, ?_⟩) hS ?_
      rotate_left
      · intro V hV
        go_simp
        (try with_reducible rfl)
      simp only [put_list, List.set_cons_succ, List.set_cons_zero]
      refine wpAnyH_ready (rs := [9]) (by kernel_rfl) (by simp) (AllReadyH.cons rfl (fun K hK => ?_) AllReadyH.nil)
      go_simp
      refine hK.out _ _ (hS.alloc hS.size _) (fun hS2 => ?_)
      clear hK K
      refine at_worldH (fun x3 hw2 => ?_)
      have h1 : x3.heap[x2.heap.size]? = some (.cells (cs (fun _ => 0)) 32 (0, 0)) := by rw [hw2]; exact heap_new _ _
      have l1 : W0.heap.size ≤ x2.heap.size := hS.size
      rw [← hw2] at hS2
      have hbx : Below x2.heap.size x2 x3 := by rw [hw2]; first | exact (Below.refl _ _).alloc (Nat.le_refl _) _ | exact ((Below.refl _ _).alloc (Nat.le_refl _) _).drew

      clear hw2 hS hbx
      have hS := hS2
      clear hS2
      refine wpAnyH_ready (rs := [10]) (by kernel_rfl) (by simp) (AllReadyH.cons rfl (fun K hK => ?_) AllReadyH.nil)
      refine ite_wp (by kernel_rfl) ?_
      refine wp_store_midN 32 (.tmp 5) (.tmp 16) rfl rfl (x2.heap.size) 0 (cs (limb (m - 2))) rfl rfl (there_cs h1 _) (info _) (one _) ?_
      have g1 := blk_sets (cs (limb (m - 2))).toList 0 h1
      rw [putAll_cs] at g1
      have hB1 := But.sets (cs (limb (m - 2))).toList 0 (But.refl (x2.heap.size) x3)
      have hSB := hS.trans (hB1.below.mono l1)
      clear h1 hB1
      generalize x3.setCells (x2.heap.size) 0 (cs (limb (m - 2))).toList = w5 at g1 hSB ⊢
      refine hK.out _ _ hSB (fun hS => ?_)
      clear hK K hSB
      refine wpAnyH_ready (rs := [11]) (by kernel_rfl) (by simp) (AllReadyH.cons rfl (fun K hK => ?_) AllReadyH.nil)
      go_simp
      refine hK.out _ _ hS (fun hS => ?_)
      clear hK K
      refine wpAnyH_done (by kernel_rfl) ?_ _
      (try simp only [put_none])
      refine HK3.out _ _ ?_
      have HRx := hideP (HR0.out.below hS)
      have HAx := hideP ((hS.block _ (lt_of_block HA.out)).trans HA.out)
      have HDx := hideP ((hS.block _ (lt_of_block HD.out)).trans HD.out)
      have HGx := hideP g1
      have HBx := hideP hS
      have nG : (x2.heap.size) ≠ R0 := by have := lt_of_block HD.out; omega
      clear g1 hS l1
      refine wp_region_heldS (S := fun V => KP w5 R0 V) (by kernel_rfl) (KP.init HDx.out) (fun hS => ?_)
      refine wpAnyH_takeL (i := 0) (v := ?_) rfl (by kernel_rfl) (by kernel_rfl) (by kernel_rfl) (fun _ _ _ h => h) (Or.inl ⟨by kernel_rfl, ?_⟩) hS ?_
      rotate_left
      · intro V hV
        go_simp
        (try with_reducible rfl)
      simp only [put_list, List.set_cons_succ, List.set_cons_zero]
      refine wpAnyH_takeL (i := 1) (v := .agg (cs (limb (el m X)))) rfl (by kernel_rfl) (by kernel_rfl) (by kernel_rfl) (fun _ _ _ h => h) (yieldsIf_load_mid (by kernel_rfl) 32 _ rfl (w.heap.size) (0) rfl (cs (limb (el m X))).toList _ (fun V hV => rangeOf (hV.box HAx.out nA)) under rfl (info _)) hS ?_
      simp only [put_list, List.set_cons_succ, List.set_cons_zero]
      refine wpAnyH_takeL (i := 2) (v := .agg (cs (limb (m - 2)))) rfl (by kernel_rfl) (by kernel_rfl) (by kernel_rfl) (fun _ _ _ h => h) (yieldsIf_load_mid (by kernel_rfl) 32 _ rfl ((x2.heap.size)) (0) rfl (cs (limb (m - 2))).toList _ (fun V hV => rangeOf (hV.box HGx.out nG)) under rfl (info _)) hS ?_
      simp only [put_list, List.set_cons_succ, List.set_cons_zero]
      refine wpAnyH_ready (rs := [3]) (by kernel_rfl) (by simp) (AllReadyH.cons rfl (fun K hK => ?_) AllReadyH.nil)
      go_simp
      refine (words_any (m - 2) _).mono ?_
      rintro e w6 ⟨⟨v, rfl, hU⟩, hbc⟩
      refine hK.out _ _ (hS.call hbc) (fun hS => ?_)
      clear hK K
      clear hbc
      have HC := hideP (raise_any (hS.ring HRx.out nP) HMF.out X v _ _ hU)
      rw [val_limbs HM2.out] at HC
      unfold wv at HC
      refine wpAnyH_ready (rs := [4]) (by kernel_rfl) (by simp) (AllReadyH.cons rfl (fun K hK => ?_) AllReadyH.nil)
      go_simp
      refine HC.out.mono ?_
      rintro e w7 ⟨rfl, hbc⟩
      refine hK.out _ _ (hS.call hbc) (fun hS => ?_)
      clear hK K
      clear hbc
      refine wpAnyH_ready (rs := [5]) (by kernel_rfl) (by simp) (AllReadyH.cons rfl (fun K hK => ?_) AllReadyH.nil)
      refine ite_wp (by kernel_rfl) ?_
      refine wp_store_midN 32 (.tmp 4) (.tmp 22) rfl rfl (R0) 0 (cs (limb (el m (X ^ (m - 2))))) rfl rfl (hS.there _) (info _) (one _) ?_
      have g1 := hS.put ((limb (el m (X ^ (m - 2)))))
      have hS9 := hS.store ((limb (el m (X ^ (m - 2)))))
      clear hS
      generalize World.setCells _ (R0) 0 (cs (limb (el m (X ^ (m - 2))))).toList = w8 at g1 hS9 ⊢
      refine hK.out _ _ hS9 (fun hS => ?_)
      clear hK K hS9
      refine wpAnyH_done (by kernel_rfl) ?_ _
      (try simp only [put_none])
      refine HK1.out _ _ ?_
      refine endRowQ (fun _ _ h => h) rfl rfl rfl (by decide) (by show 23 < 24; decide) rfl under rfl (info _) (one _) (rangeOf g1) (there_cs g1 _) ?_
      intro wS hBut
      exact ⟨rfl, HBW.out.trans ((HBx.out.mono HBW.out.size).trans ((hS.below.mono nR).trans (hBut.below.mono nR)))⟩
    · go_simp
      refine hK.out _ _ (hS.alloc hS.size _) (fun hS2 => ?_)
      clear hK K
      refine at_worldH (fun x4 hw2 => ?_)
      have h1 : x4.heap[x1.heap.size]? = some (.cells (cs (fun _ => 0)) 32 (0, 0)) := by rw [hw2]; exact heap_new _ _
      have l1 : W0.heap.size ≤ x1.heap.size := hS.size
      rw [← hw2] at hS2
      have hbx : Below x1.heap.size x1 x4 := by rw [hw2]; first | exact (Below.refl _ _).alloc (Nat.le_refl _) _ | exact ((Below.refl _ _).alloc (Nat.le_refl _) _).drew

      clear hw2 hS hbx
      have hS := hS2
      clear hS2
      refine wpAnyH_ready (rs := [5]) (by kernel_rfl) (by simp) (AllReadyH.cons rfl (fun K hK => ?_) AllReadyH.nil)
      go_simp
      refine (HMI.out _).mono ?_
      rintro e x5 ⟨rfl, hbc⟩
      have h2 := (hbc.block _ (lt_of_block h1)).trans h1
      refine hK.out _ _ (hS.trans (hbc.mono hS.size)) (fun hS2 => ?_)
      clear hK K hbc hS
      have hS := hS2
      clear hS2
      clear h1
      have h1 := h2
      clear h2
      refine wpAnyH_takeL (i := 6) (v := ?_) rfl (by kernel_rfl) (by kernel_rfl) (by kernel_rfl) (fun _ _ _ h => h) (Or.inl ⟨by kernel_rfl, ?_⟩) hS ?_
      rotate_left
      · intro V hV
        go_simp
        (try with_reducible rfl)
      simp only [put_list, List.set_cons_succ, List.set_cons_zero]
      refine wpAnyH_takeL (i := 7) (v := ?_) rfl (by kernel_rfl) (by kernel_rfl) (by kernel_rfl) (fun _ _ _ h => h) (Or.inl ⟨by kernel_rfl, ?_⟩) hS ?_
      rotate_left
      · intro V hV
        go_simp
        (try with_reducible rfl)
      simp only [put_list, List.set_cons_succ, List.set_cons_zero]
      refine wpAnyH_takeL (i := 8) (v := ?_) rfl (by kernel_rfl) (by kernel_rfl) (by kernel_rfl) (fun _ _ _ h => h) (Or.inl ⟨by kernel_rfl, ?_⟩) hS ?_
      rotate_left
      · intro V hV
        go_simp
        (try with_reducible rfl)
      simp only [put_list, List.set_cons_succ, List.set_cons_zero]
      refine wpAnyH_ready (rs := [10]) (by kernel_rfl) (by simp) (AllReadyH.cons rfl (fun K hK => ?_) AllReadyH.nil)
      refine ite_wp (by kernel_rfl) ?_
      refine wp_store_midN 32 (.tmp 5) (.tmp 16) rfl rfl (x1.heap.size) 0 (cs (limb (m - 2))) rfl rfl (there_cs h1 _) (info _) (one _) ?_
      have g1 := blk_sets (cs (limb (m - 2))).toList 0 h1
      rw [putAll_cs] at g1
      have hB1 := But.sets (cs (limb (m - 2))).toList 0 (But.refl (x1.heap.size) x5)
      have hSB := hS.trans (hB1.below.mono l1)
      clear h1 hB1
      generalize x5.setCells (x1.heap.size) 0 (cs (limb (m - 2))).toList = w5 at g1 hSB ⊢
      refine hK.out _ _ hSB (fun hS => ?_)
      clear hK K hSB
      refine wpAnyH_ready (rs := [11]) (by kernel_rfl) (by simp) (AllReadyH.cons rfl (fun K hK => ?_) AllReadyH.nil)
      go_simp
      refine hK.out _ _ hS (fun hS => ?_)
      clear hK K
      refine wpAnyH_done (by kernel_rfl) ?_ _
      (try simp only [put_none])
      refine HK3.out _ _ ?_
      have HRx := hideP (HR0.out.below hS)
      have HAx := hideP ((hS.block _ (lt_of_block HA.out)).trans HA.out)
      have HDx := hideP ((hS.block _ (lt_of_block HD.out)).trans HD.out)
      have HGx := hideP g1
      have HBx := hideP hS
      have nG : (x1.heap.size) ≠ R0 := by have := lt_of_block HD.out; omega
      clear g1 hS l1
      refine wp_region_heldS (S := fun V => KP w5 R0 V) (by kernel_rfl) (KP.init HDx.out) (fun hS => ?_)
      refine wpAnyH_takeL (i := 0) (v := ?_) rfl (by kernel_rfl) (by kernel_rfl) (by kernel_rfl) (fun _ _ _ h => h) (Or.inl ⟨by kernel_rfl, ?_⟩) hS ?_
      rotate_left
      · intro V hV
        go_simp
        (try with_reducible rfl)
      simp only [put_list, List.set_cons_succ, List.set_cons_zero]
      refine wpAnyH_takeL (i := 1) (v := .agg (cs (limb (el m X)))) rfl (by kernel_rfl) (by kernel_rfl) (by kernel_rfl) (fun _ _ _ h => h) (yieldsIf_load_mid (by kernel_rfl) 32 _ rfl (w.heap.size) (0) rfl (cs (limb (el m X))).toList _ (fun V hV => rangeOf (hV.box HAx.out nA)) under rfl (info _)) hS ?_
      simp only [put_list, List.set_cons_succ, List.set_cons_zero]
      refine wpAnyH_takeL (i := 2) (v := .agg (cs (limb (m - 2)))) rfl (by kernel_rfl) (by kernel_rfl) (by kernel_rfl) (fun _ _ _ h => h) (yieldsIf_load_mid (by kernel_rfl) 32 _ rfl ((x1.heap.size)) (0) rfl (cs (limb (m - 2))).toList _ (fun V hV => rangeOf (hV.box HGx.out nG)) under rfl (info _)) hS ?_
      simp only [put_list, List.set_cons_succ, List.set_cons_zero]
      refine wpAnyH_ready (rs := [3]) (by kernel_rfl) (by simp) (AllReadyH.cons rfl (fun K hK => ?_) AllReadyH.nil)
      go_simp
      refine (words_any (m - 2) _).mono ?_
      rintro e w6 ⟨⟨v, rfl, hU⟩, hbc⟩
      refine hK.out _ _ (hS.call hbc) (fun hS => ?_)
      clear hK K
      clear hbc
      have HC := hideP (raise_any (hS.ring HRx.out nP) HMF.out X v _ _ hU)
      rw [val_limbs HM2.out] at HC
      unfold wv at HC
      refine wpAnyH_ready (rs := [4]) (by kernel_rfl) (by simp) (AllReadyH.cons rfl (fun K hK => ?_) AllReadyH.nil)
      go_simp
      refine HC.out.mono ?_
      rintro e w7 ⟨rfl, hbc⟩
      refine hK.out _ _ (hS.call hbc) (fun hS => ?_)
      clear hK K
      clear hbc
      refine wpAnyH_ready (rs := [5]) (by kernel_rfl) (by simp) (AllReadyH.cons rfl (fun K hK => ?_) AllReadyH.nil)
      refine ite_wp (by kernel_rfl) ?_
      refine wp_store_midN 32 (.tmp 4) (.tmp 22) rfl rfl (R0) 0 (cs (limb (el m (X ^ (m - 2))))) rfl rfl (hS.there _) (info _) (one _) ?_
      have g1 := hS.put ((limb (el m (X ^ (m - 2)))))
      have hS9 := hS.store ((limb (el m (X ^ (m - 2)))))
      clear hS
      generalize World.setCells _ (R0) 0 (cs (limb (el m (X ^ (m - 2))))).toList = w8 at g1 hS9 ⊢
      refine hK.out _ _ hS9 (fun hS => ?_)
      clear hK K hS9
      refine wpAnyH_done (by kernel_rfl) ?_ _
      (try simp only [put_none])
      refine HK1.out _ _ ?_
      refine endRowQ (fun _ _ h => h) rfl rfl rfl (by decide) (by show 23 < 24; decide) rfl under rfl (info _) (one _) (rangeOf g1) (there_cs g1 _) ?_
      intro wS hBut
      exact ⟨rfl, HBW.out.trans ((HBx.out.mono HBW.out.size).trans ((hS.below.mono nR).trans (hBut.below.mono nR)))⟩
  · go_simp
    refine hK.out _ _ (hS.alloc hS.size _) (fun hS2 => ?_)
    clear hK K
    refine at_worldH (fun x6 hw2 => ?_)
    have h1 : x6.heap[W0.heap.size]? = some (.cells (cs (fun _ => 0)) 32 (0, 0)) := by rw [hw2]; exact heap_new _ _
    have l1 : W0.heap.size ≤ W0.heap.size := hS.size
    rw [← hw2] at hS2
    have hbx : Below W0.heap.size W0 x6 := by rw [hw2]; first | exact (Below.refl _ _).alloc (Nat.le_refl _) _ | exact ((Below.refl _ _).alloc (Nat.le_refl _) _).drew

    clear hw2 hS hbx
    have hS := hS2
    clear hS2
    refine wpAnyH_ready (rs := [4]) (by kernel_rfl) (by simp) (AllReadyH.cons rfl (fun K hK => ?_) AllReadyH.nil)
    go_simp
    refine (HS2.out _).mono ?_
    rintro e x7 ⟨rfl, hbc⟩
    have h2 := (hbc.block _ (lt_of_block h1)).trans h1
    refine hK.out _ _ (hS.trans (hbc.mono hS.size)) (fun hS2 => ?_)
    clear hK K hbc hS
    have hS := hS2
    clear hS2
    clear h1
    have h1 := h2
    clear h2
    refine wpAnyH_ready (rs := [5]) (by kernel_rfl) (by simp) (AllReadyH.cons rfl (fun K hK => ?_) AllReadyH.nil)
    go_simp
    refine (HMI.out _).mono ?_
    rintro e x8 ⟨rfl, hbc⟩
    have h2 := (hbc.block _ (lt_of_block h1)).trans h1
    refine hK.out _ _ (hS.trans (hbc.mono hS.size)) (fun hS2 => ?_)
    clear hK K hbc hS
    have hS := hS2
    clear hS2
    clear h1
    have h1 := h2
    clear h2
    refine wpAnyH_takeL (i := 6) (v := ?_) rfl (by kernel_rfl) (by kernel_rfl) (by kernel_rfl) (fun _ _ _ h => h) (Or.inl ⟨by kernel_rfl, ?_⟩) hS ?_
    rotate_left
    · intro V hV
      go_simp
      (try with_reducible rfl)
    simp only [put_list, List.set_cons_succ, List.set_cons_zero]
    refine wpAnyH_takeL (i := 7) (v := ?_) rfl (by kernel_rfl) (by kernel_rfl) (by kernel_rfl) (fun _ _ _ h => h) (Or.inl ⟨by kernel_rfl, ?_⟩) hS ?_
    rotate_left
    · intro V hV
      go_simp
      (try with_reducible rfl)
    simp only [put_list, List.set_cons_succ, List.set_cons_zero]
    refine wpAnyH_takeL (i := 8) (v := ?_) rfl (by kernel_rfl) (by kernel_rfl) (by kernel_rfl) (fun _ _ _ h => h) (Or.inl ⟨by kernel_rfl, ?_⟩) hS ?_
    rotate_left
    · intro V hV
      go_simp
      (try with_reducible rfl)
    simp only [put_list, List.set_cons_succ, List.set_cons_zero]
    refine wpAnyH_ready (rs := [10]) (by kernel_rfl) (by simp) (AllReadyH.cons rfl (fun K hK => ?_) AllReadyH.nil)
    refine ite_wp (by kernel_rfl) ?_
    refine wp_store_midN 32 (.tmp 5) (.tmp 16) rfl rfl (W0.heap.size) 0 (cs (limb (m - 2))) rfl rfl (there_cs h1 _) (info _) (one _) ?_
    have g1 := blk_sets (cs (limb (m - 2))).toList 0 h1
    rw [putAll_cs] at g1
    have hB1 := But.sets (cs (limb (m - 2))).toList 0 (But.refl (W0.heap.size) x8)
    have hSB := hS.trans (hB1.below.mono l1)
    clear h1 hB1
    generalize x8.setCells (W0.heap.size) 0 (cs (limb (m - 2))).toList = w5 at g1 hSB ⊢
    refine hK.out _ _ hSB (fun hS => ?_)
    clear hK K hSB
    refine wpAnyH_ready (rs := [11]) (by kernel_rfl) (by simp) (AllReadyH.cons rfl (fun K hK => ?_) AllReadyH.nil)
    go_simp
    refine hK.out _ _ hS (fun hS => ?_)
    clear hK K
    refine wpAnyH_done (by kernel_rfl) ?_ _
    (try simp only [put_none])
    refine HK3.out _ _ ?_
    have HRx := hideP (HR0.out.below hS)
    have HAx := hideP ((hS.block _ (lt_of_block HA.out)).trans HA.out)
    have HDx := hideP ((hS.block _ (lt_of_block HD.out)).trans HD.out)
    have HGx := hideP g1
    have HBx := hideP hS
    have nG : (W0.heap.size) ≠ R0 := by have := lt_of_block HD.out; omega
    clear g1 hS l1
    refine wp_region_heldS (S := fun V => KP w5 R0 V) (by kernel_rfl) (KP.init HDx.out) (fun hS => ?_)
    refine wpAnyH_takeL (i := 0) (v := ?_) rfl (by kernel_rfl) (by kernel_rfl) (by kernel_rfl) (fun _ _ _ h => h) (Or.inl ⟨by kernel_rfl, ?_⟩) hS ?_
    rotate_left
    · intro V hV
      go_simp
      (try with_reducible rfl)
    simp only [put_list, List.set_cons_succ, List.set_cons_zero]
    refine wpAnyH_takeL (i := 1) (v := .agg (cs (limb (el m X)))) rfl (by kernel_rfl) (by kernel_rfl) (by kernel_rfl) (fun _ _ _ h => h) (yieldsIf_load_mid (by kernel_rfl) 32 _ rfl (w.heap.size) (0) rfl (cs (limb (el m X))).toList _ (fun V hV => rangeOf (hV.box HAx.out nA)) under rfl (info _)) hS ?_
    simp only [put_list, List.set_cons_succ, List.set_cons_zero]
    refine wpAnyH_takeL (i := 2) (v := .agg (cs (limb (m - 2)))) rfl (by kernel_rfl) (by kernel_rfl) (by kernel_rfl) (fun _ _ _ h => h) (yieldsIf_load_mid (by kernel_rfl) 32 _ rfl ((W0.heap.size)) (0) rfl (cs (limb (m - 2))).toList _ (fun V hV => rangeOf (hV.box HGx.out nG)) under rfl (info _)) hS ?_
    simp only [put_list, List.set_cons_succ, List.set_cons_zero]
    refine wpAnyH_ready (rs := [3]) (by kernel_rfl) (by simp) (AllReadyH.cons rfl (fun K hK => ?_) AllReadyH.nil)
    go_simp
    refine (words_any (m - 2) _).mono ?_
    rintro e w6 ⟨⟨v, rfl, hU⟩, hbc⟩
    refine hK.out _ _ (hS.call hbc) (fun hS => ?_)
    clear hK K
    clear hbc
    have HC := hideP (raise_any (hS.ring HRx.out nP) HMF.out X v _ _ hU)
    rw [val_limbs HM2.out] at HC
    unfold wv at HC
    refine wpAnyH_ready (rs := [4]) (by kernel_rfl) (by simp) (AllReadyH.cons rfl (fun K hK => ?_) AllReadyH.nil)
    go_simp
    refine HC.out.mono ?_
    rintro e w7 ⟨rfl, hbc⟩
    refine hK.out _ _ (hS.call hbc) (fun hS => ?_)
    clear hK K
    clear hbc
    refine wpAnyH_ready (rs := [5]) (by kernel_rfl) (by simp) (AllReadyH.cons rfl (fun K hK => ?_) AllReadyH.nil)
    refine ite_wp (by kernel_rfl) ?_
    refine wp_store_midN 32 (.tmp 4) (.tmp 22) rfl rfl (R0) 0 (cs (limb (el m (X ^ (m - 2))))) rfl rfl (hS.there _) (info _) (one _) ?_
    have g1 := hS.put ((limb (el m (X ^ (m - 2)))))
    have hS9 := hS.store ((limb (el m (X ^ (m - 2)))))
    clear hS
    generalize World.setCells _ (R0) 0 (cs (limb (el m (X ^ (m - 2))))).toList = w8 at g1 hS9 ⊢
    refine hK.out _ _ hS9 (fun hS => ?_)
    clear hK K hS9
    refine wpAnyH_done (by kernel_rfl) ?_ _
    (try simp only [put_none])
    refine HK1.out _ _ ?_
    refine endRowQ (fun _ _ h => h) rfl rfl rfl (by decide) (by show 23 < 24; decide) rfl under rfl (info _) (one _) (rangeOf g1) (there_cs g1 _) ?_
    intro wS hBut
    exact ⟨rfl, HBW.out.trans ((HBx.out.mono HBW.out.size).trans ((hS.below.mono nR).trans (hBut.below.mono nR)))⟩

end Go.Proofs.YtppijhcfodccfaaGreat.W4
