/-
  Elements and places that are held against one another.
-/
import Derived.Test.YtcbdbnfgnonacaaGreatCurveBn1C16
import Derived.Test.YtcbdbnfgnonacaaGreatCurveBn1C01
import Derived.Test.YtcbdbnfgnonacaaGreatCurveBn1C11
namespace Go.Proofs.YtcbdbnfgnonacaaGreat.W4
open Go.RowKit Go.Shelf

theorem sub_mod {X Y m : Nat} (hX : X < m) (hY : Y < m) (hm : m < R) : (X + (m - Y)) % m = if less1 X Y = 1 then (X + R * less1 X Y - Y + m) % R else X + R * less1 X Y - Y := by
  unfold less1
  by_cases h : X < Y
  · simp only [h, if_true]
    rw [Nat.mod_eq_of_lt (by omega), show X + R * 1 - Y + m = X + (m - Y) + R by omega, Nat.add_mod_right, Nat.mod_eq_of_lt (by omega)]
  · simp only [h, if_false]
    rw [show X + (m - Y) = X - Y + m by omega, Nat.add_mod_right, Nat.mod_eq_of_lt (by omega)]
    simp

set_option maxHeartbeats 4000000 in
set_option maxRecDepth 100000 in
theorem subtract_any {p m f o r : Nat} {w : World} (hr : RingAt w p m f o r) (h : MF m f) (X Y : Nat) (hX : X < m) (hY : Y < m) :
    Calls Tryz.prog 284 #[.pointer (some ⟨p, 0, none⟩), wv X, wv Y] w fun e w' => e = .returned (wv ((X + (m - Y)) % m)) ∧ Below w.heap.size w w' := by
  have hp : p < w.heap.size := hr.lt
  have hm := h.lt
  have HC := hideP (fun w => minus_any X Y (by omega) (by omega) w)
  have HP := hideP (fun w => plus_any (X + R * less1 X Y - Y) m (minus_lt (by omega) (by omega)) hm w)
  rw [sub_mod hX hY hm]
  have hl1 : less1 X Y = 0 ∨ less1 X Y = 1 := by unfold less1; split <;> simp
  have HR := hideP hr
  clear hr h hm hX hY
  generalize X + R * less1 X Y - Y = D at *
  generalize (D + m) % R = E at *
  generalize (D + m) / R = cE at *
  generalize less1 X Y = b at *
  unfold wv at HC HP ⊢
  have HRES : Hid (Value.agg (cs (limb (if b = 1 then E else D))) = if b = 1 then .agg (cs (limb E)) else .agg (cs (limb D))) := by
    show _ = _
    split <;> rfl
  rw [HRES.out]
  rw [show cs (limb X) = #[.int .u64 (limb X 0), .int .u64 (limb X 1), .int .u64 (limb X 2), .int .u64 (limb X 3)] from rfl, show cs (limb Y) = #[.int .u64 (limb Y 0), .int .u64 (limb Y 1), .int .u64 (limb Y 2), .int .u64 (limb Y 3)] from rfl] at HC ⊢
  rw [show cs (limb D) = #[.int .u64 (limb D 0), .int .u64 (limb D 1), .int .u64 (limb D 2), .int .u64 (limb D 3)] from rfl] at HC
  clear HRES
  go_enter Tryz.func284, Tryz.ntmps284
  go_wp2_with fail
  rename_i Q' KA hKA KB hKB
  have HKA := hideP hKA
  clear hKA
  refine at_world_q (fun W0 hW0 => ?_)
  have hD : W0.heap[w.heap.size + 1 + 1]? = some (.cells (cs (fun _ => 0)) 32 (0, 0)) := by
    rw [hW0]
    exact heap_new2 _ _ _ _
  have HBW : Hid (Below w.heap.size w W0) := by
    show Below _ _ _
    rw [hW0]
    repeat first | exact Below.refl _ _ | (refine Below.alloc ?_ (by simp <;> omega) _)
  clear hW0
  refine (HC.out _).mono ?_
  rintro e w1 ⟨rfl, hb⟩
  have HR1 := hideP (HR.out.belowN hp (HBW.out.trans (hb.mono HBW.out.size)))
  have HD1 := hideP ((hb.block _ (lt_of_block hD)).trans hD)
  have HB1 := hideP (HBW.out.trans (hb.mono HBW.out.size))
  clear hb hD HBW HC HR
  go_wp2_with fail
  refine at_worldK (fun W1 hW1 => ?_)
  have h7 : W1.heap[w1.heap.size]? = some (.cells (cs (limb D)) 32 (0, 0)) := by
    rw [hW1]
    exact heap_new _ _
  have hb1 : Below w1.heap.size w1 W1 := by
    rw [hW1]
    exact (Below.refl _ _).alloc (Nat.le_refl _) _
  have HR2 := hideP (HR1.out.below hb1)
  have HD2 := hideP ((hb1.block _ (lt_of_block HD1.out)).trans HD1.out)
  have HB2 := hideP (HB1.out.trans (hb1.mono HB1.out.size))
  have H7 := hideP h7
  have n7 : p ≠ w1.heap.size := by have := HR1.out.lt; omega
  have nD : w.heap.size + 1 + 1 ≠ w1.heap.size := by have := lt_of_block HD1.out; omega
  have nW : w.heap.size ≤ w1.heap.size := HB1.out.size
  clear hW1 hb1 h7 HR1 HD1 HB1
  generalize w1.heap.size = b7 at *
  refine HKA.out _ _ ?_
  refine wp_seqH (fun K1 HK1 => ?_)
  refine wp_seqH (fun K2 HK2 => ?_)
  rcases hl1 with rfl | rfl
  · go_wp2_with fail
    refine HK2.out _ _ ?_
    refine wp_cond_false rfl (wp_skip ?_)
    refine HK1.out _ _ ?_
    refine endRowQ (fun _ _ h => h) rfl rfl rfl (by decide) (by show 26 < 27; decide) rfl under rfl (info _) (one _) (rangeOf H7.out) (there_cs HD2.out _) ?_
    intro wS hBut
    exact ⟨by rw [if_neg (show ¬ (0 = 1) by decide)], HB2.out.trans (hBut.below.mono (by omega))⟩
  · go_wp2_with fail
    refine HK2.out _ _ ?_
    refine wp_cond_true rfl ?_
    refine wp_region_heldS (S := fun V => KP W1 b7 V) (by kernel_rfl) (KP.init H7.out) (fun hS => ?_)
    refine wpAnyH_takeL (i := 1) (v := ?_) rfl (by kernel_rfl) (by kernel_rfl) (by kernel_rfl) (fun _ _ _ h => h) (Or.inl ⟨by kernel_rfl, ?_⟩) hS ?_
    rotate_left
    · intro V hV
      go_simp
      (try with_reducible rfl)
    simp only [put_list, List.set_cons_succ, List.set_cons_zero]
    refine wpAnyH_takeL (i := 2) (v := ?_) rfl (by kernel_rfl) (by kernel_rfl) (by kernel_rfl) (fun _ _ _ h => h) (Or.inl ⟨by kernel_rfl, ?_⟩) hS ?_
    rotate_left
    · intro V hV
      go_simp
      (try with_reducible rfl)
    simp only [put_list, List.set_cons_succ, List.set_cons_zero]
    refine wpAnyH_takeL (i := 3) (v := ?_) rfl (by kernel_rfl) (by kernel_rfl) (by kernel_rfl) (fun _ _ _ h => h) (Or.inl ⟨by kernel_rfl, ?_⟩) hS ?_
    rotate_left
    · intro V hV
      go_simp
      (try with_reducible rfl)
    simp only [put_list, List.set_cons_succ, List.set_cons_zero]
    refine wpAnyH_takeL (i := 4) (v := .agg (cs (limb m))) rfl (by kernel_rfl) (by kernel_rfl) (by kernel_rfl) (fun _ _ _ h => h) (yieldsIf_load_mid (by kernel_rfl) 32 _ rfl (p) (0) rfl (cs (limb m)).toList _ (fun V hV => (hV.ring HR2.out n7).mod) under rfl (info _)) hS ?_
    simp only [put_list, List.set_cons_succ, List.set_cons_zero]
    refine wpAnyH_ready (rs := [0]) (by kernel_rfl) (by simp) (AllReadyH.cons rfl (fun K hK => ?_) AllReadyH.nil)
    refine ite_wp (by kernel_rfl) ?_
    refine wp_load_midD 32 (.tmp 7) 18 rfl rfl (b7) (0) (cs (limb D)) rfl _ (rangeOf H7.out) under rfl (info _) ?_
    refine hK.out _ _ hS (fun hS => ?_)
    clear hK K
    simp only [List.set_cons_succ, List.set_cons_zero]
    refine wpAnyH_ready (rs := [5]) (by kernel_rfl) (by simp) (AllReadyH.cons rfl (fun K hK => ?_) AllReadyH.nil)
    go_simp
    refine (HP.out _).mono ?_
    rintro e w2 ⟨rfl, hbc⟩
    refine hK.out _ _ (hS.call hbc) (fun hS => ?_)
    clear hK K
    clear hbc
    refine wpAnyH_takeL (i := 6) (v := ?_) rfl (by kernel_rfl) (by kernel_rfl) (by kernel_rfl) (fun _ _ _ h => h) (Or.inl ⟨by kernel_rfl, ?_⟩) hS ?_
    rotate_left
    · intro V hV
      go_simp
      (try with_reducible rfl)
    simp only [put_list, List.set_cons_succ, List.set_cons_zero]
    refine wpAnyH_takeL (i := 7) (v := ?_) rfl (by kernel_rfl) (by kernel_rfl) (by kernel_rfl) (fun _ _ _ h => h) (Or.inl ⟨by kernel_rfl, ?_⟩) hS ?_
    rotate_left
    · intro V hV
      go_simp
      (try with_reducible rfl)
    simp only [put_list, List.set_cons_succ, List.set_cons_zero]
    refine wpAnyH_takeL (i := 8) (v := ?_) rfl (by kernel_rfl) (by kernel_rfl) (by kernel_rfl) (fun _ _ _ h => h) (Or.inl ⟨by kernel_rfl, ?_⟩) hS ?_
    rotate_left
    · intro V hV
      go_simp
      (try with_reducible rfl)
    simp only [put_list, List.set_cons_succ, List.set_cons_zero]
    refine wpAnyH_ready (rs := [9]) (by kernel_rfl) (by simp) (AllReadyH.cons rfl (fun K hK => ?_) AllReadyH.nil)
    refine ite_wp (by kernel_rfl) ?_
    refine wp_store_midN 32 (.tmp 7) (.tmp 24) rfl rfl (b7) 0 (cs (limb E)) rfl rfl (hS.there _) (info _) (one _) ?_
    have g1 := hS.put ((limb E))
    have hS9 := hS.store ((limb E))
    clear hS
    generalize World.setCells _ (b7) 0 (cs (limb E)).toList = w3 at g1 hS9 ⊢
    refine hK.out _ _ hS9 (fun hS => ?_)
    clear hK K hS9
    refine wpAnyH_done (by kernel_rfl) ?_ _
    (try simp only [put_none])
    refine HK1.out _ _ ?_
    refine endRowQ (fun _ _ h => h) rfl rfl rfl (by decide) (by show 26 < 27; decide) rfl under rfl (info _) (one _) (rangeOf g1) (there_cs (hS.box HD2.out nD) _) ?_
    intro wS hBut
    exact ⟨by rw [if_pos rfl], HB2.out.trans ((hS.below.mono nW).trans (hBut.below.mono (by omega)))⟩

end Go.Proofs.YtcbdbnfgnonacaaGreat.W4

namespace Go.Proofs.YtcbdbnfgnonacaaGreat.W4
open Go.RowKit Go.Shelf

theorem add_cancel_le {m P Q c : Nat} (hQ : Q < m) (hle : P ≤ Q) (h : (P + c) % m = (Q + c) % m) : P = Q := by
  have h1 := Nat.sub_mod_eq_zero_of_mod_eq h.symm
  rw [Nat.add_sub_add_right, Nat.mod_eq_of_lt (by omega)] at h1
  omega

theorem add_cancel {m P Q c : Nat} (hP : P < m) (hQ : Q < m) (h : (P + c) % m = (Q + c) % m) : P = Q := by
  rcases Nat.le_total P Q with hle | hle
  · exact add_cancel_le hQ hle h
  · exact (add_cancel_le hP hle h.symm).symm

theorem el_period (m X k : Nat) : el m (X + m * k) = el m X := by
  rw [← el_mod m (X + m * k), Nat.add_mul_mod_self_left, el_mod]

theorem el_sub {m f : Nat} (h : MF m f) (X Y : Nat) : (el m X + (m - el m Y)) % m = el m (X + (m - Y % m)) := by
  have hy := el_lt h Y
  refine add_cancel (c := el m Y) (Nat.mod_lt _ h.pos) (el_lt h _) ?_
  rw [Nat.mod_add_mod, el_add, show el m X + (m - el m Y) + el m Y = el m X + m by omega, Nat.add_mod_right, Nat.mod_eq_of_lt (el_lt h X)]
  have hY := Nat.mod_add_div Y m
  have hl := Nat.mod_lt Y h.pos
  have e : X + (m - Y % m) + Y = X + m * (Y / m + 1) := by
    rw [Nat.mul_add, Nat.mul_one]
    omega
  rw [e, el_period]

theorem sub_el {p m f o r : Nat} {w : World} (hr : RingAt w p m f o r) (h : MF m f) (X Y : Nat) :
    Calls Tryz.prog 284 #[.pointer (some ⟨p, 0, none⟩), wv (el m X), wv (el m Y)] w fun e w' => e = .returned (wv (el m (X + (m - Y % m)))) ∧ Below w.heap.size w w' := by
  have := subtract_any hr h (el m X) (el m Y) (el_lt h X) (el_lt h Y)
  rw [el_sub h] at this
  exact this

theorem el_zero (m : Nat) : el m 0 = 0 := by unfold el; rw [Nat.zero_mul, Nat.zero_mod]

set_option maxHeartbeats 2000000 in
set_option maxRecDepth 100000 in
theorem subM_any {p m : Nat} {w : World} (hgood : Good w p m) (X Y : Nat) : Calls Tryz.prog 280 #[.pointer (some ⟨p, 0, none⟩), wv (el m X), wv (el m Y)] w fun e w' => e = .returned (wv (el m (X + (m - Y % m)))) ∧ Below w.heap.size w w' := by

  have hp := hgood.lt
  obtain ⟨f, hMF, hr⟩ := hgood.ex
  have HIS := hideP (fun w (hr : RingAt w p m f (el m 1) (el m R)) => isMade_good hr hMF)
  have HMF := hideP hMF
  have HR := hideP hr
  clear hr hMF hgood
  unfold wv
  unfold cs
  go_enter Tryz.func280, Tryz.ntmps280
  refine wp_seqH (fun K0 HK0 => ?_)
  go_wp2_with fail
  refine HK0.out _ _ ?_
  clear HK0 K0
  refine at_world (fun W0 hW0 => ?_)
  have hA : W0.heap[w.heap.size]? = some (.cells (cs (limb (el m X))) 32 (0, 0)) := by
    rw [hW0]
    exact ((heap_old _ _ (by simp <;> omega)).trans ((heap_old _ _ (by simp <;> omega)).trans (heap_new _ _)))
  have hB : W0.heap[w.heap.size + 1]? = some (.cells (cs (limb (el m Y))) 32 (0, 0)) := by
    rw [hW0]
    exact ((heap_old _ _ (by simp <;> omega)).trans (heap_new1 _ _ _))
  have hD : W0.heap[w.heap.size + 1 + 1]? = some (.cells (cs (fun _ => 0)) 32 (0, 0)) := by
    rw [hW0]
    exact heap_new2 _ _ _ _ 
  have HBW : Hid (Below w.heap.size w W0) := by
    show Below _ _ _
    rw [hW0]
    repeat first | exact Below.refl _ _ | (refine Below.alloc ?_ (by simp <;> omega) _)
  clear hW0
  have HR0 := hideP (HR.out.belowN hp HBW.out)
  have HA := hideP hA
  have HB := hideP hB
  have HD := hideP hD
  clear HR hA hB hD
  have nP : p ≠ w.heap.size + 1 + 1 := by omega
  have nA : w.heap.size ≠ w.heap.size + 1 + 1 := by omega
  have nB : w.heap.size + 1 ≠ w.heap.size + 1 + 1 := by omega
  have nR : w.heap.size ≤ w.heap.size + 1 + 1 := by omega
  generalize hRR : w.heap.size + 1 + 1 = R0 at *
  refine wp_seqH (fun K1 HK1 => ?_)
  refine wp_seqH (fun K2 HK2 => ?_)
  go_wp2_with (go_at_call 281; refine (HIS.out _ HR0.out).mono ?_; rintro e w' ⟨rfl, rfl⟩)
  refine HK2.out _ _ ?_
  clear HK2 K2
  refine wp_cond_true rfl ?_
  obtain ⟨qa0, qa1, qa2, qa3⟩ := cells HA.out
  obtain ⟨qb0, qb1, qb2, qb3⟩ := cells HB.out
  have HC := hideP (sub_el HR0.out HMF.out X Y)
  unfold wv cs at HC
  go_wp2_with fail
  rename_i hKB
  refine HC.out.mono ?_
  rintro e w1 ⟨rfl, hbc⟩
  refine hKB _ _ ?_
  have hS1 := (KP.start HD.out).call hbc
  refine wpList_store_mid rfl 32 (.tmp 6) (.tmp 12) rfl R0 0 (cs (limb (el m (X + (m - Y % m))))) rfl rfl (hS1.there _) (info _) (one _) ?_
  refine wpList_nil ?_
  simp only [put_none]
  have g1 := hS1.put (limb (el m (X + (m - Y % m))))
  have hS := hS1.store (limb (el m (X + (m - Y % m))))
  generalize World.setCells w1 R0 0 (cs (limb (el m (X + (m - Y % m))))).toList = w2 at g1 hS ⊢
  refine HK1.out _ _ ?_
  refine endRowQ (fun _ _ h => h) rfl rfl rfl (by decide) (by show 13 < 14; decide) rfl under rfl (info _) (one _) (rangeOf g1) (there_cs g1 _) ?_
  intro wS hBut
  exact ⟨rfl, HBW.out.trans ((hS.below.mono nR).trans (hBut.below.mono nR))⟩

set_option maxHeartbeats 2000000 in
set_option maxRecDepth 100000 in
theorem neg_any {p m : Nat} {w : World} (hgood : Good w p m) (X : Nat) : Calls Tryz.prog 277 #[.pointer (some ⟨p, 0, none⟩), wv (el m X)] w fun e w' => e = .returned (wv (el m (m - X % m))) ∧ Below w.heap.size w w' := by

  have hp := hgood.lt
  obtain ⟨f, hMF, hr⟩ := hgood.ex
  have HIS := hideP (fun w (hr : RingAt w p m f (el m 1) (el m R)) => isMade_good hr hMF)
  have HMF := hideP hMF
  have HR := hideP hr
  clear hr hMF hgood
  unfold wv
  unfold cs
  go_enter Tryz.func277, Tryz.ntmps277
  refine wp_seqH (fun K0 HK0 => ?_)
  go_wp2_with fail
  refine HK0.out _ _ ?_
  clear HK0 K0
  refine at_world (fun W0 hW0 => ?_)
  have hA : W0.heap[w.heap.size]? = some (.cells (cs (limb (el m X))) 32 (0, 0)) := by
    rw [hW0]
    exact ((heap_old _ _ (by simp <;> omega)).trans (heap_new _ _))
  have hD : W0.heap[w.heap.size + 1]? = some (.cells (cs (fun _ => 0)) 32 (0, 0)) := by
    rw [hW0]
    exact heap_new1 _ _ _ 
  have HBW : Hid (Below w.heap.size w W0) := by
    show Below _ _ _
    rw [hW0]
    repeat first | exact Below.refl _ _ | (refine Below.alloc ?_ (by simp <;> omega) _)
  clear hW0
  have HR0 := hideP (HR.out.belowN hp HBW.out)
  have HA := hideP hA
  have HD := hideP hD
  clear HR hA hD
  have nP : p ≠ w.heap.size + 1 := by omega
  have nA : w.heap.size ≠ w.heap.size + 1 := by omega
  have nR : w.heap.size ≤ w.heap.size + 1 := by omega
  generalize hRR : w.heap.size + 1 = R0 at *
  refine wp_seqH (fun K1 HK1 => ?_)
  refine wp_seqH (fun K2 HK2 => ?_)
  go_wp2_with (go_at_call 281; refine (HIS.out _ HR0.out).mono ?_; rintro e w' ⟨rfl, rfl⟩)
  refine HK2.out _ _ ?_
  clear HK2 K2
  refine wp_cond_true rfl ?_
  refine wp_region_heldS (S := fun V => KP W0 R0 V) (by kernel_rfl) (KP.init HD.out) (fun hS => ?_)
  refine wpAnyH_takeL (i := 0) (v := ?_) rfl (by kernel_rfl) (by kernel_rfl) (by kernel_rfl) (fun _ _ _ h => h) (Or.inl ⟨by kernel_rfl, ?_⟩) hS ?_
  rotate_left
  · intro V hV
    go_simp
    (try with_reducible rfl)
  simp only [put_list, List.set_cons_succ, List.set_cons_zero]
  refine wpAnyH_takeL (i := 2) (v := .agg (cs (limb (el m X)))) rfl (by kernel_rfl) (by kernel_rfl) (by kernel_rfl) (fun _ _ _ h => h) (yieldsIf_load_mid (by kernel_rfl) 32 _ rfl (w.heap.size) (0) rfl (cs (limb (el m X))).toList _ (fun V hV => rangeOf (hV.box HA.out nA)) under rfl (info _)) hS ?_
  simp only [put_list, List.set_cons_succ, List.set_cons_zero]
  have HS1 : Hid (∀ w, Calls Tryz.prog 148 #[.int .u64 (0 : Int)] w fun e w' => e = .returned (wv 0) ∧ Below w.heap.size w w') := fun w => small_any 0 (by decide) w
  unfold wv at HS1
  refine wpAnyH_ready (rs := [1]) (by kernel_rfl) (by simp) (AllReadyH.cons rfl (fun K hK => ?_) AllReadyH.nil)
  go_simp
  refine (HS1.out _).mono ?_
  rintro e w1 ⟨rfl, hbc⟩
  refine hK.out _ _ (hS.call hbc) (fun hS => ?_)
  clear hK K
  clear hbc
  have HC := hideP (sub_el (hS.ring HR0.out nP) HMF.out 0 X)
  rw [el_zero, Nat.zero_add] at HC
  unfold wv at HC
  refine wpAnyH_ready (rs := [3]) (by kernel_rfl) (by simp) (AllReadyH.cons rfl (fun K hK => ?_) AllReadyH.nil)
  go_simp
  refine HC.out.mono ?_
  rintro e w1 ⟨rfl, hbc⟩
  refine hK.out _ _ (hS.call hbc) (fun hS => ?_)
  clear hK K
  clear hbc
  refine wpAnyH_ready (rs := [4]) (by kernel_rfl) (by simp) (AllReadyH.cons rfl (fun K hK => ?_) AllReadyH.nil)
  refine ite_wp (by kernel_rfl) ?_
  refine wp_store_midN 32 (.tmp 4) (.tmp 10) rfl rfl (R0) 0 (cs (limb (el m (m - X % m)))) rfl rfl (hS.there _) (info _) (one _) ?_
  have g1 := hS.put ((limb (el m (m - X % m))))
  have hS9 := hS.store ((limb (el m (m - X % m))))
  clear hS
  generalize World.setCells _ (R0) 0 (cs (limb (el m (m - X % m)))).toList = w2 at g1 hS9 ⊢
  refine hK.out _ _ hS9 (fun hS => ?_)
  clear hK K hS9
  refine wpAnyH_done (by kernel_rfl) ?_ _
  (try simp only [put_none])
  refine HK1.out _ _ ?_
  refine endRowQ (fun _ _ h => h) rfl rfl rfl (by decide) (by show 11 < 12; decide) rfl under rfl (info _) (one _) (rangeOf g1) (there_cs g1 _) ?_
  intro wS hBut
  exact ⟨rfl, HBW.out.trans ((hS.below.mono nR).trans (hBut.below.mono nR))⟩

end Go.Proofs.YtcbdbnfgnonacaaGreat.W4

namespace Go.Proofs.YtcbdbnfgnonacaaGreat.P4
open Go.RowKit Go.Shelf

abbrev K := Nat

/-- The cells of an element. -/
noncomputable def ev (m : Nat) (x : K) : Array Value := Classical.choose (⟨_, rfl⟩ : ∃ C : Array Value, C = W4.cs (limb (W4.el m x)))

theorem ev_eq (m : Nat) (x : K) : ev m x = W4.cs (limb (W4.el m x)) := Classical.choose_spec (⟨_, rfl⟩ : ∃ C : Array Value, C = W4.cs (limb (W4.el m x)))

/-- The cells of a number. -/
noncomputable def nv (A : K) : Array Value := Classical.choose (⟨_, rfl⟩ : ∃ C : Array Value, C = W4.cs (limb A))

theorem nv_eq (A : K) : nv A = W4.cs (limb A) := Classical.choose_spec (⟨_, rfl⟩ : ∃ C : Array Value, C = W4.cs (limb A))

/-- A number that fits. -/
def Fits (A : K) : Prop := A < W4.R

def rest (m : Nat) (x : K) : K := x % m

def kadd (_m : Nat) (x y : K) : K := x + y

def ksub (m : Nat) (x y : K) : K := x + (m - y % m)

def kneg (m : Nat) (x : K) : K := m - x % m

def kmul (_m : Nat) (x y : K) : K := x * y

def kinv (m : Nat) (x : K) : K := x ^ (m - 2)

theorem ev_size (m : Nat) (x : K) : (ev m x).size = 4 := by rw [ev_eq]; rfl

theorem nv_size (A : K) : (nv A).size = 4 := by rw [nv_eq]; rfl

theorem ev_one (m : Nat) (x : K) : (ev m x).all (·.oneCell') = true := by rw [ev_eq]; exact W4.one _

theorem nv_one (A : K) : (nv A).all (·.oneCell') = true := by rw [nv_eq]; exact W4.one _

/-- The field as an interface's value, and as a method's receiver. -/
def ifv (p : Nat) : Value := .iface 113 (.pointer (some ⟨p, 0, none⟩))

def rcv (p : Nat) : Value := .pointer (some ⟨p, 0, none⟩)

abbrev FOK (w : World) (p m : Nat) : Prop := W4.Good w p m

theorem _root_.Go.Proofs.YtcbdbnfgnonacaaGreat.W4.Good.of_same {w w' : World} {p m : Nat} (h : W4.Good w p m) (hp : w'.heap[p]? = w.heap[p]?) : W4.Good w' p m := by
  obtain ⟨f, h1, h2⟩ := h.ex
  exact ⟨f, h1, ⟨hp.trans h2.heap⟩⟩

def k0 : K := 0

def k1 : K := 1

section
variable (p : Nat) (a b : Value) (w : World)
set_option maxRecDepth 100000
theorem cm_Add : (callMethod (ifv p) "Add" #[a, b]).run Tryz.prog w = .ok (.enter 273 #[rcv p, a, b]) w := by kernel_rfl

theorem cm_Sub : (callMethod (ifv p) "Sub" #[a, b]).run Tryz.prog w = .ok (.enter 280 #[rcv p, a, b]) w := by kernel_rfl

theorem cm_Mul : (callMethod (ifv p) "Mul" #[a, b]).run Tryz.prog w = .ok (.enter 276 #[rcv p, a, b]) w := by kernel_rfl

theorem cm_Neg : (callMethod (ifv p) "Neg" #[a]).run Tryz.prog w = .ok (.enter 277 #[rcv p, a]) w := by kernel_rfl

theorem cm_Inv : (callMethod (ifv p) "Inv" #[a]).run Tryz.prog w = .ok (.enter 275 #[rcv p, a]) w := by kernel_rfl

theorem cm_In : (callMethod (ifv p) "In" #[a]).run Tryz.prog w = .ok (.enter 274 #[rcv p, a]) w := by kernel_rfl

theorem na_Add : (nilAhead (Tryz.prog.types.size + Made.depth) 113 (rcv p) "Add").run Tryz.prog w = .ok (some false) w := by kernel_rfl

theorem na_Sub : (nilAhead (Tryz.prog.types.size + Made.depth) 113 (rcv p) "Sub").run Tryz.prog w = .ok (some false) w := by kernel_rfl

theorem na_Mul : (nilAhead (Tryz.prog.types.size + Made.depth) 113 (rcv p) "Mul").run Tryz.prog w = .ok (some false) w := by kernel_rfl

theorem na_Neg : (nilAhead (Tryz.prog.types.size + Made.depth) 113 (rcv p) "Neg").run Tryz.prog w = .ok (some false) w := by kernel_rfl

theorem na_Inv : (nilAhead (Tryz.prog.types.size + Made.depth) 113 (rcv p) "Inv").run Tryz.prog w = .ok (some false) w := by kernel_rfl

theorem na_In : (nilAhead (Tryz.prog.types.size + Made.depth) 113 (rcv p) "In").run Tryz.prog w = .ok (some false) w := by kernel_rfl

theorem na_Out : (nilAhead (Tryz.prog.types.size + Made.depth) 113 (rcv p) "Out").run Tryz.prog w = .ok (some false) w := by kernel_rfl

theorem cm_Out : (callMethod (ifv p) "Out" #[a]).run Tryz.prog w = .ok (.enter 278 #[rcv p, a]) w := by kernel_rfl

end

section
variable {w : World} {p m : Nat} (hg : FOK w p m) (x y : K)
include hg
theorem c_Add : Calls Tryz.prog 273 #[rcv p, .agg (ev m x), .agg (ev m y)] w fun e w' => e = .returned (.agg (ev m (kadd m x y))) ∧ Below w.heap.size w w' := by
  simp only [ev_eq]
  exact W4.addM_any hg x y

theorem c_Sub : Calls Tryz.prog 280 #[rcv p, .agg (ev m x), .agg (ev m y)] w fun e w' => e = .returned (.agg (ev m (ksub m x y))) ∧ Below w.heap.size w w' := by
  simp only [ev_eq]
  exact W4.subM_any hg x y

theorem c_Mul : Calls Tryz.prog 276 #[rcv p, .agg (ev m x), .agg (ev m y)] w fun e w' => e = .returned (.agg (ev m (kmul m x y))) ∧ Below w.heap.size w w' := by
  simp only [ev_eq]
  exact W4.mulM_any hg x y

theorem c_Neg : Calls Tryz.prog 277 #[rcv p, .agg (ev m x)] w fun e w' => e = .returned (.agg (ev m (kneg m x))) ∧ Below w.heap.size w w' := by
  simp only [ev_eq]
  exact W4.neg_any hg x

theorem c_Inv : Calls Tryz.prog 275 #[rcv p, .agg (ev m x)] w fun e w' => e = .returned (.agg (ev m (kinv m x))) ∧ Below w.heap.size w w' := by
  simp only [ev_eq]
  exact W4.inv_any hg x

theorem c_In (hx : Fits x) : Calls Tryz.prog 274 #[rcv p, .agg (nv x)] w fun e w' => e = .returned (.agg (ev m x)) ∧ Below w.heap.size w w' := by
  simp only [ev_eq, nv_eq]
  exact W4.in_any hg x hx

theorem c_Out : Calls Tryz.prog 278 #[rcv p, .agg (ev m x)] w fun e w' => e = .returned (.agg (nv (rest m x))) ∧ Below w.heap.size w w' := by
  simp only [ev_eq, nv_eq]
  exact W4.out_any hg x

end

theorem eq_u (d : Nat) (x y : Int) (W : World) : (Op.equalIn (d + 1) 27 (.int .u64 x) (.int .u64 y)).run Tryz.prog W = .ok (x == y) W := by
  unfold Op.equalIn
  simp [go_sem]

theorem eq_l (d : Nat) (a0 a1 a2 a3 b0 b1 b2 b3 : Int) (W : World) : (Op.equalIn (d + 2) 32 (.agg #[.int .u64 a0, .int .u64 a1, .int .u64 a2, .int .u64 a3]) (.agg #[.int .u64 b0, .int .u64 b1, .int .u64 b2, .int .u64 b3])).run Tryz.prog W = .ok (a0 == b0 && (a1 == b1 && (a2 == b2 && (a3 == b3)))) W := by
  unfold Op.equalIn
  simp [go_sem, List.range', eq_u]
  by_cases h0 : a0 = b0 <;> by_cases h1 : a1 = b1 <;> by_cases h2 : a2 = b2 <;> by_cases h3 : a3 = b3 <;> simp [go_sem, h0, h1, h2, h3]

theorem eqv (d : Nat) {X Y : Nat} (hX : X < W4.R) (hY : Y < W4.R) (W : World) : (Op.equalIn (d + 2) 32 (.agg (nv X)) (.agg (nv Y))).run Tryz.prog W = .ok (decide (X = Y)) W := by
  rw [nv_eq, nv_eq]
  refine (eq_l d (limb X 0 : Int) (limb X 1 : Int) (limb X 2 : Int) (limb X 3 : Int) (limb Y 0 : Int) (limb Y 1 : Int) (limb Y 2 : Int) (limb Y 3 : Int) W).trans ?_
  congr 1
  rw [Bool.eq_iff_iff, decide_eq_true_eq]
  simp only [Bool.and_eq_true, beq_iff_eq]
  constructor
  · rintro ⟨h0, h1, h2, h3⟩
    rw [← W4.val_limbs hX, ← W4.val_limbs hY]
    refine val_congr _ (fun j hj => ?_)
    match j, hj with
    | 0, _ => omega
    | 1, _ => omega
    | 2, _ => omega
    | 3, _ => omega
    | k + 4, h => exact absurd h (by omega)
  · rintro rfl
    exact ⟨rfl, rfl, rfl, rfl⟩

/-- Two that stand for the same. -/
def Like (m : Nat) (x y : K) : Prop := W4.el m x = W4.el m y

instance (m : Nat) (x y : K) : Decidable (Like m x y) := inferInstanceAs (Decidable (_ = _))

theorem el_fits {w : World} {p m : Nat} (hg : FOK w p m) (x : K) : W4.el m x < W4.R := by
  obtain ⟨f, h1, h2⟩ := hg.ex
  exact Nat.lt_of_lt_of_le (W4.el_lt h1 x) (Nat.le_of_lt h1.lt)

theorem eqE (d : Nat) {w : World} {p m : Nat} (hg : FOK w p m) (x y : K) (W : World) : (Op.equalIn (d + 2) 32 (.agg (ev m x)) (.agg (ev m y))).run Tryz.prog W = .ok (decide (Like m x y)) W := by
  have h := eqv d (el_fits hg x) (el_fits hg y) W
  rw [nv_eq, nv_eq] at h
  rw [ev_eq, ev_eq]
  exact h

theorem rest_fit {w : World} {p m : Nat} (hg : FOK w p m) (x : K) : Fits (rest m x) := by
  obtain ⟨f, h1, h2⟩ := hg.ex
  have h3 := W4.el_lt h1 x
  exact Nat.lt_trans (Nat.mod_lt _ (by omega)) h1.lt

theorem ev_rest (m : Nat) (x : K) : ev m (rest m x) = ev m x := by
  rw [ev_eq, ev_eq]
  unfold rest W4.el
  rw [Nat.mod_mul_mod]

theorem k0_fits : Fits k0 := Nat.pos_of_ne_zero (by decide +kernel)

theorem eqN (d : Nat) {x y : K} (hx : Fits x) (hy : Fits y) (W : World) : (Op.equalIn (d + 2) 32 (.agg (nv x)) (.agg (nv y))).run Tryz.prog W = .ok (decide (x = y)) W := eqv d hx hy W

end Go.Proofs.YtcbdbnfgnonacaaGreat.P4

namespace Go.Proofs.YtcbdbnfgnonacaaGreat.P4
open Go.RowKit Go.Shelf

theorem underE : Tryz.prog.underlying 32 = some (.array 4 27) := by kernel_rfl

theorem infoE {C : Array Value} (h : C.size = 4) : (Tryz.prog.info? 32).map (·.size) = some C.size := by rw [h]; kernel_rfl

/-- A group in memory: its field, 0, 1 and b. -/
structure GAt (w : World) (g p m : Nat) (b : K) : Prop where
  fld : w.cell? ⟨g, 0, none⟩ = some (ifv p)
  zero : w.rangeAt g 1 (ev m k0).toList
  one : w.rangeAt g (1 + 4) (ev m k1).toList
  b : w.rangeAt g (1 + 2 * 4) (ev m b).toList
  ok : FOK w p m
  glt : g < w.heap.size
  plt : p < w.heap.size

theorem range_congr {w w' : World} {g o : Nat} {l : List Value} (h : w'.heap[g]? = w.heap[g]?) (hr : w.rangeAt g o l) : w'.rangeAt g o l := fun j v hv => by
  have := hr j v hv
  unfold World.cell? at this ⊢
  rw [h]
  exact this

theorem GAt.same {w w' : World} {g p m : Nat} {b : K} (h : GAt w g p m b) (hg : w'.heap[g]? = w.heap[g]?) (hp : w'.heap[p]? = w.heap[p]?) (hs : w.heap.size ≤ w'.heap.size) : GAt w' g p m b :=
  ⟨by have := h.fld; unfold World.cell? at this ⊢; rw [hg]; exact this, range_congr hg h.zero, range_congr hg h.one, range_congr hg h.b, h.ok.of_same hp, Nat.lt_of_lt_of_le h.glt hs, Nat.lt_of_lt_of_le h.plt hs⟩

theorem GAt.below {w w' : World} {g p m : Nat} {b : K} (h : GAt w g p m b) (hb : Below w.heap.size w w') : GAt w' g p m b := h.same (hb.block _ h.glt) (hb.block _ h.plt) hb.size

theorem GAt.kq {W V : World} {R0 n ty g p m : Nat} {b : K} (h : GAt W g p m b) (hS : KQ W R0 n ty V) (h1 : g ≠ R0) (h2 : p ≠ R0) : GAt V g p m b := h.same (hS.same _ h.glt h1) (hS.same _ h.plt h2) hS.size

end Go.Proofs.YtcbdbnfgnonacaaGreat.P4

namespace Go.Proofs.YtcbdbnfgnonacaaGreat.P4
open Go.RowKit Go.Shelf

def zn : Array Value := Array.replicate 4 (.int .u64 0)

theorem zn_size : zn.size = 4 := rfl

/-- A place's cells, a scaled point's, a point's. -/
noncomputable def pl (m : Nat) (x y : K) : Array Value := Classical.choose (⟨_, rfl⟩ : ∃ C : Array Value, C = ev m x ++ ev m y)

theorem pl_eq (m : Nat) (x y : K) : pl m x y = ev m x ++ ev m y := Classical.choose_spec (⟨_, rfl⟩ : ∃ C : Array Value, C = ev m x ++ ev m y)

noncomputable def sc (m : Nat) (x y z : K) : Array Value := Classical.choose (⟨_, rfl⟩ : ∃ C : Array Value, C = pl m x y ++ ev m z)

theorem sc_eq (m : Nat) (x y z : K) : sc m x y z = pl m x y ++ ev m z := Classical.choose_spec (⟨_, rfl⟩ : ∃ C : Array Value, C = pl m x y ++ ev m z)

noncomputable def pt (x y : K) (i : Bool) : Array Value := Classical.choose (⟨_, rfl⟩ : ∃ C : Array Value, C = nv x ++ (nv y ++ #[.bool i]))

theorem pt_eq (x y : K) (i : Bool) : pt x y i = nv x ++ (nv y ++ #[.bool i]) := Classical.choose_spec (⟨_, rfl⟩ : ∃ C : Array Value, C = nv x ++ (nv y ++ #[.bool i]))

theorem pl_size (m : Nat) (x y : K) : (pl m x y).size = 2 * 4 := by rw [pl_eq, Array.size_append, ev_size, ev_size]

theorem sc_size (m : Nat) (x y z : K) : (sc m x y z).size = 3 * 4 := by rw [sc_eq, Array.size_append, pl_size, ev_size]

theorem pt_size (x y : K) (i : Bool) : (pt x y i).size = 2 * 4 + 1 := by rw [pt_eq, Array.size_append, Array.size_append, nv_size, nv_size]; rfl

theorem all_append' {A B : Array Value} (h1 : A.all (·.oneCell') = true) (h2 : B.all (·.oneCell') = true) : (A ++ B).all (·.oneCell') = true := by
  rw [Array.all_append, h1, h2]; rfl

theorem pl_one (m : Nat) (x y : K) : (pl m x y).all (·.oneCell') = true := by
  rw [pl_eq]
  exact all_append' (ev_one _ _) (ev_one _ _)

theorem sc_one (m : Nat) (x y z : K) : (sc m x y z).all (·.oneCell') = true := by
  rw [sc_eq]
  exact all_append' (pl_one _ _ _) (ev_one _ _)

theorem pt_one (x y : K) (i : Bool) : (pt x y i).all (·.oneCell') = true := by
  rw [pt_eq]
  exact all_append' (nv_one _) (all_append' (nv_one _) (by simp [Value.oneCell']))

theorem underPl : Tryz.prog.underlying 262 = some (.struct (fsOf (Tryz.prog.underlying 262))) := by kernel_rfl

theorem underSc : Tryz.prog.underlying 264 = some (.struct (fsOf (Tryz.prog.underlying 264))) := by kernel_rfl

theorem underPt : Tryz.prog.underlying 125 = some (.struct (fsOf (Tryz.prog.underlying 125))) := by kernel_rfl

theorem infoPl {C : Array Value} (h : C.size = 2 * 4) : (Tryz.prog.info? 262).map (·.size) = some C.size := by rw [h]; kernel_rfl

theorem infoSc {C : Array Value} (h : C.size = 3 * 4) : (Tryz.prog.info? 264).map (·.size) = some C.size := by rw [h]; kernel_rfl

theorem infoPt {C : Array Value} (h : C.size = 2 * 4 + 1) : (Tryz.prog.info? 125).map (·.size) = some C.size := by rw [h]; kernel_rfl

section
variable {w : World} {b t m : Nat} {x y z : K} {i : Bool}
theorem pt_x (h : w.heap[b]? = some (.cells (pt x y i) t (0, 0))) : w.rangeAt b 0 (nv x).toList := by
  refine range_mid (A := #[]) (C := nv y ++ #[.bool i]) (t := t) ?_ rfl
  rw [h, pt_eq, Array.empty_append]

theorem pt_y (h : w.heap[b]? = some (.cells (pt x y i) t (0, 0))) : w.rangeAt b 4 (nv y).toList := by
  refine range_mid (A := nv x) (C := #[.bool i]) (t := t) ?_ (nv_size _)
  rw [h, pt_eq]

theorem pt_i (h : w.heap[b]? = some (.cells (pt x y i) t (0, 0))) : w.cell? ⟨b, 2 * 4, none⟩ = some (.bool i) := by
  have := range_mid (w := w) (b := b) (t := t) (A := nv x ++ nv y) (B := #[.bool i]) (C := #[]) (o := 2 * 4) (by rw [h, pt_eq, Array.append_empty, Array.append_assoc]) (by rw [Array.size_append, nv_size, nv_size])
  exact this 0 _ rfl

end

theorem nv_zero : nv k0 = zn := by first | (rw [nv_eq]; rfl) | (rw [nv_eq, P4.nv_eq, P4.nv_eq]; rfl)

end Go.Proofs.YtcbdbnfgnonacaaGreat.P4

namespace Go.Proofs.YtcbdbnfgnonacaaGreat.P4
open Go.RowKit Go.Shelf

set_option maxRecDepth 100000 in
theorem gqE : Tryz.prog.eqGuardType Tryz.prog.depth 32 = false := by kernel_rfl

set_option maxRecDepth 100000 in
theorem gqPl : Tryz.prog.eqGuardType Tryz.prog.depth 262 = false := by kernel_rfl

theorem eqPl {w : World} {p m : Nat} (hg : FOK w p m) (x y x' y' : K) (W : World) : (Op.equalIn 10000 262 (.agg (pl m x y)) (.agg (pl m x' y'))).run Tryz.prog W = .ok (decide (Like m x x') && decide (Like m y y')) W := by
  have iE : (Tryz.prog.info? 32).map (·.size) = some 4 := by rw [infoE (ev_size m x), ev_size]
  rw [pl_eq, pl_eq]
  exact equal_two (f1 := (fsOf (Tryz.prog.underlying 262))[0]!) (f2 := (fsOf (Tryz.prog.underlying 262))[1]!) (e1 := 32) (e2 := 32) (d := 9999) (n1 := 4) (n2 := 4) (by kernel_rfl) (by kernel_rfl) (by decide +kernel) (by decide +kernel) (by kernel_rfl) (by kernel_rfl) (by kernel_rfl) (by kernel_rfl)
    underE rfl iE underE rfl iE (ev_size _ _) (ev_size _ _) (ev_size _ _) (ev_size _ _) (eqE 9997 hg x x' W) (eqE 9997 hg y y' W)

set_option maxRecDepth 100000 in
theorem gqPt : Tryz.prog.eqGuardType Tryz.prog.depth 125 = false := by kernel_rfl

theorem eqB (d : Nat) (a b : Bool) (W : World) : (Op.equalIn (d + 1) 4 (.bool a) (.bool b)).run Tryz.prog W = .ok (a == b) W := by
  unfold Op.equalIn
  simp [go_sem]

theorem eqPt {x y x' y' : K} (hx : Fits x) (hy : Fits y) (hx' : Fits x') (hy' : Fits y') (i i' : Bool) (W : World) : (Op.equalIn 10000 125 (.agg (pt x y i)) (.agg (pt x' y' i'))).run Tryz.prog W = .ok (decide (x = x') && (decide (y = y') && (i == i'))) W := by
  have iE : (Tryz.prog.info? 32).map (·.size) = some 4 := by rw [infoE (nv_size x), nv_size]
  rw [pt_eq, pt_eq]
  exact equal_three (f1 := (fsOf (Tryz.prog.underlying 125))[0]!) (f2 := (fsOf (Tryz.prog.underlying 125))[1]!) (f3 := (fsOf (Tryz.prog.underlying 125))[2]!) (e1 := 32) (e2 := 32) (e3 := 4) (d := 9999) (n1 := 4) (n2 := 4) (by kernel_rfl) (by kernel_rfl) (by decide +kernel) (by decide +kernel) (by decide +kernel) (by kernel_rfl) (by kernel_rfl) (by kernel_rfl) (by kernel_rfl) (by kernel_rfl) (by kernel_rfl)
    underE rfl iE underE rfl iE (by kernel_rfl) (nv_size _) (nv_size _) (nv_size _) (nv_size _) (eqN 9997 hx hx' W) (eqN 9997 hy hy' W) (eqB 9998 i i' W)

end Go.Proofs.YtcbdbnfgnonacaaGreat.P4
