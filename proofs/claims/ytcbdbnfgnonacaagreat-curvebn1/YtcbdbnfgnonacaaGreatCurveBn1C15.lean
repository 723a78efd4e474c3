/-
  Words from the last to the first: the library's iterator; a range over a function that gives a known row of values.
-/
import Derived.Test.YtcbdbnfgnonacaaGreatCurveBn1C14
import Derived.RangeFuncNested
import Derived.RangeFuncBound
import Derived.RangeFuncCalls
import Derived.RangeFuncLeaves
import Derived.RangeFuncBox
import Derived.Shelf.Abstract
import Derived.Shelf.RegionOpen
import Derived.OwnWalkIn
import Derived.TacticsInMore
import Derived.LoopNIn
import Derived.LoopIn
import Derived.RangeFuncWrites
import Derived.Test.YtcbdbnfgnonacaaGreatCurveBn1C01
namespace Go.Proofs.YtcbdbnfgnonacaaGreat.W4
open Go.RowKit Go.Shelf

set_option maxHeartbeats 2000000 in
set_option maxRecDepth 100000 in
theorem in_any {p m : Nat} {w : World} (hgood : Good w p m) (A : Nat) (hA1 : A < R) : Calls Tryz.prog 274 #[.pointer (some ⟨p, 0, none⟩), wv A] w fun e w' => e = .returned (wv (el m A)) ∧ Below w.heap.size w w' := by

  have hp := hgood.lt
  obtain ⟨f, hMF, hr⟩ := hgood.ex
  have HIS := hideP (fun w (hr : RingAt w p m f (el m 1) (el m R)) => isMade_good hr hMF)
  have HMF := hideP hMF
  have HR := hideP hr
  clear hr hMF hgood
  unfold wv
  unfold cs
  go_enter Tryz.func274, Tryz.ntmps274
  refine wp_seqH (fun K0 HK0 => ?_)
  go_wp2_with fail
  refine HK0.out _ _ ?_
  clear HK0 K0
  refine at_world (fun W0 hW0 => ?_)
  have hA : W0.heap[w.heap.size]? = some (.cells (cs (limb A)) 32 (0, 0)) := by
    rw [hW0]
    exact ((heap_old _ _ (by simp <;> omega)).trans (heap_new _ _))
  have hD : W0.heap[w.heap.size + 1]? = some (.cells (cs (fun _ => 0)) 32 (0, 0)) := by
    rw [hW0]
    exact heap_new1 _ _ _ 
  have HBW : Hid (Below w.heap.size w W0) := by
    show Below _ _ _
    rw [hW0]
    repeat first | exact Below.refl _ _ | (refine Below.alloc ?_ (by simp <;> omega) _)
  clear hW0
  have HR0 := hideP (HR.out.belowN hp HBW.out)
  have HA := hideP hA
  have HD := hideP hD
  clear HR hA hD
  have nP : p ≠ w.heap.size + 1 := by omega
  have nA : w.heap.size ≠ w.heap.size + 1 := by omega
  have nR : w.heap.size ≤ w.heap.size + 1 := by omega
  generalize hRR : w.heap.size + 1 = R0 at *
  refine wp_seqH (fun K1 HK1 => ?_)
  refine wp_seqH (fun K2 HK2 => ?_)
  go_wp2_with (go_at_call 281; refine (HIS.out _ HR0.out).mono ?_; rintro e w' ⟨rfl, rfl⟩)
  refine HK2.out _ _ ?_
  clear HK2 K2
  refine wp_cond_true rfl ?_
  refine wp_region_heldS (S := fun V => KP W0 R0 V) (by kernel_rfl) (KP.init HD.out) (fun hS => ?_)
  refine wpAnyH_takeL (i := 0) (v := ?_) rfl (by kernel_rfl) (by kernel_rfl) (by kernel_rfl) (fun _ _ _ h => h) (Or.inl ⟨by kernel_rfl, ?_⟩) hS ?_
  rotate_left
  · intro V hV
    go_simp
    (try with_reducible rfl)
  simp only [put_list, List.set_cons_succ, List.set_cons_zero]
  refine wpAnyH_takeL (i := 1) (v := .agg (cs (limb A))) rfl (by kernel_rfl) (by kernel_rfl) (by kernel_rfl) (fun _ _ _ h => h) (yieldsIf_load_mid (by kernel_rfl) 32 _ rfl (w.heap.size) (0) rfl (cs (limb A)).toList _ (fun V hV => rangeOf (hV.box HA.out nA)) under rfl (info _)) hS ?_
  simp only [put_list, List.set_cons_succ, List.set_cons_zero]
  refine wpAnyH_takeL (i := 2) (v := ?_) rfl (by kernel_rfl) (by kernel_rfl) (by kernel_rfl) (fun _ _ _ h => h) (Or.inl ⟨by kernel_rfl, ?_⟩) hS ?_
  rotate_left
  · intro V hV
    go_simp
    (try with_reducible rfl)
  simp only [put_list, List.set_cons_succ, List.set_cons_zero]
  refine wpAnyH_takeL (i := 3) (v := ?_) rfl (by kernel_rfl) (by kernel_rfl) (by kernel_rfl) (fun _ _ _ h => h) (Or.inl ⟨by kernel_rfl, ?_⟩) hS ?_
  rotate_left
  · intro V hV
    go_simp
    (try with_reducible rfl)
  simp only [put_list, List.set_cons_succ, List.set_cons_zero]
  refine wpAnyH_takeL (i := 4) (v := ?_) rfl (by kernel_rfl) (by kernel_rfl) (by kernel_rfl) (fun _ _ _ h => h) (Or.inl ⟨by kernel_rfl, ?_⟩) hS ?_
  rotate_left
  · intro V hV
    go_simp
    (try with_reducible rfl)
  simp only [put_list, List.set_cons_succ, List.set_cons_zero]
  refine wpAnyH_takeL (i := 5) (v := .agg (cs (limb (el m R)))) rfl (by kernel_rfl) (by kernel_rfl) (by kernel_rfl) (fun _ _ _ h => h) (yieldsIf_load_mid (by kernel_rfl) 32 _ rfl (p) (2 * 4 + 1) rfl (cs (limb (el m R))).toList _ (fun V hV => (hV.ring HR0.out nP).radix) under rfl (info _)) hS ?_
  simp only [put_list, List.set_cons_succ, List.set_cons_zero]
  have HC := hideP (mult_in HR0.out.drew HMF.out A hA1)
  unfold wv at HC
  refine wpAnyH_ready (rs := [6]) (by kernel_rfl) (by simp) (AllReadyH.cons rfl (fun K hK => ?_) AllReadyH.nil)
  go_simp
  refine HC.out.mono ?_
  rintro e w1 ⟨rfl, hbc⟩
  refine hK.out _ _ (hS.call hbc) (fun hS => ?_)
  clear hK K
  clear hbc
  refine wpAnyH_ready (rs := [7]) (by kernel_rfl) (by simp) (AllReadyH.cons rfl (fun K hK => ?_) AllReadyH.nil)
  refine ite_wp (by kernel_rfl) ?_
  refine wp_store_midN 32 (.tmp 4) (.tmp 13) rfl rfl (R0) 0 (cs (limb (el m A))) rfl rfl (hS.there _) (info _) (one _) ?_
  have g1 := hS.put ((limb (el m A)))
  have hS9 := hS.store ((limb (el m A)))
  clear hS
  generalize World.setCells _ (R0) 0 (cs (limb (el m A))).toList = w2 at g1 hS9 ⊢
  refine hK.out _ _ hS9 (fun hS => ?_)
  clear hK K hS9
  refine wpAnyH_done (by kernel_rfl) ?_ _
  (try simp only [put_none])
  refine HK1.out _ _ ?_
  refine endRowQ (fun _ _ h => h) rfl rfl rfl (by decide) (by show 14 < 15; decide) rfl under rfl (info _) (one _) (rangeOf g1) (there_cs g1 _) ?_
  intro wS hBut
  exact ⟨rfl, HBW.out.trans ((hS.below.mono nR).trans (hBut.below.mono nR))⟩

set_option maxHeartbeats 2000000 in
set_option maxRecDepth 100000 in
theorem out_any {p m : Nat} {w : World} (hgood : Good w p m) (X : Nat) : Calls Tryz.prog 278 #[.pointer (some ⟨p, 0, none⟩), wv (el m X)] w fun e w' => e = .returned (wv (X % m)) ∧ Below w.heap.size w w' := by

  have hp := hgood.lt
  obtain ⟨f, hMF, hr⟩ := hgood.ex
  have HIS := hideP (fun w (hr : RingAt w p m f (el m 1) (el m R)) => isMade_good hr hMF)
  have HMF := hideP hMF
  have HR := hideP hr
  clear hr hMF hgood
  unfold wv
  unfold cs
  go_enter Tryz.func278, Tryz.ntmps278
  refine wp_seqH (fun K0 HK0 => ?_)
  go_wp2_with fail
  refine HK0.out _ _ ?_
  clear HK0 K0
  refine at_world (fun W0 hW0 => ?_)
  have hA : W0.heap[w.heap.size]? = some (.cells (cs (limb (el m X))) 32 (0, 0)) := by
    rw [hW0]
    exact ((heap_old _ _ (by simp <;> omega)).trans (heap_new _ _))
  have hD : W0.heap[w.heap.size + 1]? = some (.cells (cs (fun _ => 0)) 32 (0, 0)) := by
    rw [hW0]
    exact heap_new1 _ _ _ 
  have HBW : Hid (Below w.heap.size w W0) := by
    show Below _ _ _
    rw [hW0]
    repeat first | exact Below.refl _ _ | (refine Below.alloc ?_ (by simp <;> omega) _)
  clear hW0
  have HR0 := hideP (HR.out.belowN hp HBW.out)
  have HA := hideP hA
  have HD := hideP hD
  clear HR hA hD
  have nP : p ≠ w.heap.size + 1 := by omega
  have nA : w.heap.size ≠ w.heap.size + 1 := by omega
  have nR : w.heap.size ≤ w.heap.size + 1 := by omega
  generalize hRR : w.heap.size + 1 = R0 at *
  refine wp_seqH (fun K1 HK1 => ?_)
  refine wp_seqH (fun K2 HK2 => ?_)
  go_wp2_with (go_at_call 281; refine (HIS.out _ HR0.out).mono ?_; rintro e w' ⟨rfl, rfl⟩)
  refine HK2.out _ _ ?_
  clear HK2 K2
  refine wp_cond_true rfl ?_
  refine wp_region_heldS (S := fun V => KP W0 R0 V) (by kernel_rfl) (KP.init HD.out) (fun hS => ?_)
  refine wpAnyH_takeL (i := 0) (v := ?_) rfl (by kernel_rfl) (by kernel_rfl) (by kernel_rfl) (fun _ _ _ h => h) (Or.inl ⟨by kernel_rfl, ?_⟩) hS ?_
  rotate_left
  · intro V hV
    go_simp
    (try with_reducible rfl)
  simp only [put_list, List.set_cons_succ, List.set_cons_zero]
  refine wpAnyH_takeL (i := 1) (v := .agg (cs (limb (el m X)))) rfl (by kernel_rfl) (by kernel_rfl) (by kernel_rfl) (fun _ _ _ h => h) (yieldsIf_load_mid (by kernel_rfl) 32 _ rfl (w.heap.size) (0) rfl (cs (limb (el m X))).toList _ (fun V hV => rangeOf (hV.box HA.out nA)) under rfl (info _)) hS ?_
  simp only [put_list, List.set_cons_succ, List.set_cons_zero]
  have HS1 : Hid (∀ w, Calls Tryz.prog 148 #[.int .u64 (1 : Int)] w fun e w' => e = .returned (wv 1) ∧ Below w.heap.size w w') := fun w => small_any 1 (by decide) w
  unfold wv at HS1
  refine wpAnyH_ready (rs := [2]) (by kernel_rfl) (by simp) (AllReadyH.cons rfl (fun K hK => ?_) AllReadyH.nil)
  go_simp
  refine (HS1.out _).mono ?_
  rintro e w1 ⟨rfl, hbc⟩
  refine hK.out _ _ (hS.call hbc) (fun hS => ?_)
  clear hK K
  clear hbc
  have HC := hideP (mult_out (hS.ring HR0.out nP) HMF.out X)
  unfold wv at HC
  refine wpAnyH_ready (rs := [3]) (by kernel_rfl) (by simp) (AllReadyH.cons rfl (fun K hK => ?_) AllReadyH.nil)
  go_simp
  refine HC.out.mono ?_
  rintro e w1 ⟨rfl, hbc⟩
  refine hK.out _ _ (hS.call hbc) (fun hS => ?_)
  clear hK K
  clear hbc
  refine wpAnyH_ready (rs := [4]) (by kernel_rfl) (by simp) (AllReadyH.cons rfl (fun K hK => ?_) AllReadyH.nil)
  refine ite_wp (by kernel_rfl) ?_
  refine wp_store_midN 32 (.tmp 4) (.tmp 10) rfl rfl (R0) 0 (cs (limb (X % m))) rfl rfl (hS.there _) (info _) (one _) ?_
  have g1 := hS.put ((limb (X % m)))
  have hS9 := hS.store ((limb (X % m)))
  clear hS
  generalize World.setCells _ (R0) 0 (cs (limb (X % m))).toList = w2 at g1 hS9 ⊢
  refine hK.out _ _ hS9 (fun hS => ?_)
  clear hK K hS9
  refine wpAnyH_done (by kernel_rfl) ?_ _
  (try simp only [put_none])
  refine HK1.out _ _ ?_
  refine endRowQ (fun _ _ h => h) rfl rfl rfl (by decide) (by show 11 < 12; decide) rfl under rfl (info _) (one _) (rangeOf g1) (there_cs g1 _) ?_
  intro wS hBut
  exact ⟨rfl, HBW.out.trans ((hS.below.mono nR).trans (hBut.below.mono nR))⟩

set_option maxHeartbeats 2000000 in
set_option maxRecDepth 100000 in
theorem mulM_any {p m : Nat} {w : World} (hgood : Good w p m) (X Y : Nat) : Calls Tryz.prog 276 #[.pointer (some ⟨p, 0, none⟩), wv (el m X), wv (el m Y)] w fun e w' => e = .returned (wv (el m (X * Y))) ∧ Below w.heap.size w w' := by

  have hp := hgood.lt
  obtain ⟨f, hMF, hr⟩ := hgood.ex
  have HIS := hideP (fun w (hr : RingAt w p m f (el m 1) (el m R)) => isMade_good hr hMF)
  have HMF := hideP hMF
  have HR := hideP hr
  clear hr hMF hgood
  unfold wv
  unfold cs
  go_enter Tryz.func276, Tryz.ntmps276
  refine wp_seqH (fun K0 HK0 => ?_)
  go_wp2_with fail
  refine HK0.out _ _ ?_
  clear HK0 K0
  refine at_world (fun W0 hW0 => ?_)
  have hA : W0.heap[w.heap.size]? = some (.cells (cs (limb (el m X))) 32 (0, 0)) := by
    rw [hW0]
    exact ((heap_old _ _ (by simp <;> omega)).trans ((heap_old _ _ (by simp <;> omega)).trans (heap_new _ _)))
  have hB : W0.heap[w.heap.size + 1]? = some (.cells (cs (limb (el m Y))) 32 (0, 0)) := by
    rw [hW0]
    exact ((heap_old _ _ (by simp <;> omega)).trans (heap_new1 _ _ _))
  have hD : W0.heap[w.heap.size + 1 + 1]? = some (.cells (cs (fun _ => 0)) 32 (0, 0)) := by
    rw [hW0]
    exact heap_new2 _ _ _ _ 
  have HBW : Hid (Below w.heap.size w W0) := by
    show Below _ _ _
    rw [hW0]
    repeat first | exact Below.refl _ _ | (refine Below.alloc ?_ (by simp <;> omega) _)
  clear hW0
  have HR0 := hideP (HR.out.belowN hp HBW.out)
  have HA := hideP hA
  have HB := hideP hB
  have HD := hideP hD
  clear HR hA hB hD
  have nP : p ≠ w.heap.size + 1 + 1 := by omega
  have nA : w.heap.size ≠ w.heap.size + 1 + 1 := by omega
  have nB : w.heap.size + 1 ≠ w.heap.size + 1 + 1 := by omega
  have nR : w.heap.size ≤ w.heap.size + 1 + 1 := by omega
  generalize hRR : w.heap.size + 1 + 1 = R0 at *
  refine wp_seqH (fun K1 HK1 => ?_)
  refine wp_seqH (fun K2 HK2 => ?_)
  go_wp2_with (go_at_call 281; refine (HIS.out _ HR0.out).mono ?_; rintro e w' ⟨rfl, rfl⟩)
  refine HK2.out _ _ ?_
  clear HK2 K2
  refine wp_cond_true rfl ?_
  obtain ⟨qa0, qa1, qa2, qa3⟩ := cells HA.out
  obtain ⟨qb0, qb1, qb2, qb3⟩ := cells HB.out
  have HC := hideP (mult_el HR0.out HMF.out X Y)
  unfold wv cs at HC
  go_wp2_with fail
  rename_i hKB
  refine HC.out.mono ?_
  rintro e w1 ⟨rfl, hbc⟩
  refine hKB _ _ ?_
  have hS1 := (KP.start HD.out).call hbc
  refine wpList_store_mid rfl 32 (.tmp 6) (.tmp 12) rfl R0 0 (cs (limb (el m (X * Y)))) rfl rfl (hS1.there _) (info _) (one _) ?_
  refine wpList_nil ?_
  simp only [put_none]
  have g1 := hS1.put (limb (el m (X * Y)))
  have hS := hS1.store (limb (el m (X * Y)))
  generalize World.setCells w1 R0 0 (cs (limb (el m (X * Y)))).toList = w2 at g1 hS ⊢
  refine HK1.out _ _ ?_
  refine endRowQ (fun _ _ h => h) rfl rfl rfl (by decide) (by show 13 < 14; decide) rfl under rfl (info _) (one _) (rangeOf g1) (there_cs g1 _) ?_
  intro wS hBut
  exact ⟨rfl, HBW.out.trans ((hS.below.mono nR).trans (hBut.below.mono nR))⟩

theorem add_el {p m f o r : Nat} {w : World} (hr : RingAt w p m f o r) (h : MF m f) (X Y : Nat) :
    Calls Tryz.prog 219 #[.pointer (some ⟨p, 0, none⟩), wv (el m X), wv (el m Y)] w fun e w' => e = .returned (wv (el m (X + Y))) ∧ Below w.heap.size w w' := by
  have := add_any hr h (el m X) (el m Y) (el_lt h X) (el_lt h Y)
  rw [el_add] at this
  exact this

set_option maxHeartbeats 2000000 in
set_option maxRecDepth 100000 in
theorem addM_any {p m : Nat} {w : World} (hgood : Good w p m) (X Y : Nat) : Calls Tryz.prog 273 #[.pointer (some ⟨p, 0, none⟩), wv (el m X), wv (el m Y)] w fun e w' => e = .returned (wv (el m (X + Y))) ∧ Below w.heap.size w w' := by

  have hp := hgood.lt
  obtain ⟨f, hMF, hr⟩ := hgood.ex
  have HIS := hideP (fun w (hr : RingAt w p m f (el m 1) (el m R)) => isMade_good hr hMF)
  have HMF := hideP hMF
  have HR := hideP hr
  clear hr hMF hgood
  unfold wv
  unfold cs
  go_enter Tryz.func273, Tryz.ntmps273
  refine wp_seqH (fun K0 HK0 => ?_)
  go_wp2_with fail
  refine HK0.out _ _ ?_
  clear HK0 K0
  refine at_world (fun W0 hW0 => ?_)
  have hA : W0.heap[w.heap.size]? = some (.cells (cs (limb (el m X))) 32 (0, 0)) := by
    rw [hW0]
    exact ((heap_old _ _ (by simp <;> omega)).trans ((heap_old _ _ (by simp <;> omega)).trans (heap_new _ _)))
  have hB : W0.heap[w.heap.size + 1]? = some (.cells (cs (limb (el m Y))) 32 (0, 0)) := by
    rw [hW0]
    exact ((heap_old _ _ (by simp <;> omega)).trans (heap_new1 _ _ _))
  have hD : W0.heap[w.heap.size + 1 + 1]? = some (.cells (cs (fun _ => 0)) 32 (0, 0)) := by
    rw [hW0]
    exact heap_new2 _ _ _ _ 
  have HBW : Hid (Below w.heap.size w W0) := by
    show Below _ _ _
    rw [hW0]
    repeat first | exact Below.refl _ _ | (refine Below.alloc ?_ (by simp <;> omega) _)
  clear hW0
  have HR0 := hideP (HR.out.belowN hp HBW.out)
  have HA := hideP hA
  have HB := hideP hB
  have HD := hideP hD
  clear HR hA hB hD
  have nP : p ≠ w.heap.size + 1 + 1 := by omega
  have nA : w.heap.size ≠ w.heap.size + 1 + 1 := by omega
  have nB : w.heap.size + 1 ≠ w.heap.size + 1 + 1 := by omega
  have nR : w.heap.size ≤ w.heap.size + 1 + 1 := by omega
  generalize hRR : w.heap.size + 1 + 1 = R0 at *
  refine wp_seqH (fun K1 HK1 => ?_)
  refine wp_seqH (fun K2 HK2 => ?_)
  go_wp2_with (go_at_call 281; refine (HIS.out _ HR0.out).mono ?_; rintro e w' ⟨rfl, rfl⟩)
  refine HK2.out _ _ ?_
  clear HK2 K2
  refine wp_cond_true rfl ?_
  obtain ⟨qa0, qa1, qa2, qa3⟩ := cells HA.out
  obtain ⟨qb0, qb1, qb2, qb3⟩ := cells HB.out
  have HC := hideP (add_el HR0.out HMF.out X Y)
  unfold wv cs at HC
  go_wp2_with fail
  rename_i hKB
  refine HC.out.mono ?_
  rintro e w1 ⟨rfl, hbc⟩
  refine hKB _ _ ?_
  have hS1 := (KP.start HD.out).call hbc
  refine wpList_store_mid rfl 32 (.tmp 6) (.tmp 12) rfl R0 0 (cs (limb (el m (X + Y)))) rfl rfl (hS1.there _) (info _) (one _) ?_
  refine wpList_nil ?_
  simp only [put_none]
  have g1 := hS1.put (limb (el m (X + Y)))
  have hS := hS1.store (limb (el m (X + Y)))
  generalize World.setCells w1 R0 0 (cs (limb (el m (X + Y)))).toList = w2 at g1 hS ⊢
  refine HK1.out _ _ ?_
  refine endRowQ (fun _ _ h => h) rfl rfl rfl (by decide) (by show 13 < 14; decide) rfl under rfl (info _) (one _) (rangeOf g1) (there_cs g1 _) ?_
  intro wS hBut
  exact ⟨rfl, HBW.out.trans ((hS.below.mono nR).trans (hBut.below.mono nR))⟩

end Go.Proofs.YtcbdbnfgnonacaaGreat.W4

namespace Go.Proofs.YtcbdbnfgnonacaaGreat
open Go.RowKit Go.Shelf

/-- How a round may be left. -/
def seqPost (B : Nat) (Kp : World → World → Prop) (I : Nat → World → Prop) (Ix : Code → World → Prop) (k : Nat) (W W2 : World) : Exit → Act → World → Prop
  | .normal, _, W3 => KeepsFrom B W2 W3 ∧ Kp W W3 ∧ I (k + 1) W3
  | .ret, _, W3 => KeepsFrom B W2 W3 ∧ Ix .ret W3
  | .exit id, _, W3 => KeepsFrom B W2 W3 ∧ Ix (.exit id) W3
  | .goto t, _, W3 => KeepsFrom B W2 W3 ∧ Ix (.goto t) W3
  | .panic _, _, _ => False
  | .outgrown, _, _ => False

/-- An iterator that gives the values vals 0, .., vals (N - 1), and then ends. -/
def Gives (m : Nat) (P : Program) (gf : Nat) (lb : Array Value) (vals : Nat → Array Value) (N : Nat) (Kp : World → World → Prop) (w : World) : Prop :=
  ∀ (l : Nat) (J : Nat → World → Prop) (Jx : World → Prop) (W : World), Below w.heap.size w W → (∀ k V V', J k V → Below V.heap.size V V' → J k V') → (∀ V V', Jx V → Below V.heap.size V V' → Jx V') →
    (∀ k V, k < N → J k V → YieldAt Fence.wide (m - 1) P l (vals k) V fun e V' => (e = .returned (.bool true) ∧ J (k + 1) V' ∧ Kp V V') ∨ (e = .returned (.bool false) ∧ Jx V')) →
    J 0 W → CallsIn Fence.wide m P gf (#[.func (.yield l) #[] #[]] ++ lb) W fun e W' => (∃ v, e = .returned v) ∧ (J N W' ∨ Jx W')

theorem below_other {W W' : World} (hb : Below W.heap.size W W') {k : Nat} {o : Obj} (h : W.heap[k]? = some o) : W'.heap[k]? = some o := (hb.block k (lt_of_block h)).trans h

theorem range_seq {P : Program} {n : Nat} {g : Operand} {ps : Array Tmp} {assign body : Code} {Q : Exit → Act → World → Prop} {a : Act} {w : World} (h1 : 1 ≤ n) {gf : Nat} {lb : Array Value} (hg : a.eval g = .func (.func gf) #[] lb)
    (eg : ∀ args w, (callFunc gf args).run P w = .ok (.enter gf args) w) (vals : Nat → Array Value) (N : Nat) (hps : ∀ k, (vals k).size = ps.size) (Kp : World → World → Prop) (hgive : Gives (n - 1) P gf lb vals N Kp w)
    (I : Nat → World → Prop) (Ix : Code → World → Prop) (hI : ∀ k V V', I k V → Below V.heap.size V V' → I k V') (hIx : ∀ c V V', Ix c V → Below V.heap.size V V' → Ix c V')
    (hIp : ∀ k V l o o', I k V → w.heap.size ≤ l → V.heap[l]? = some o → o.isCells = false → I k (V.putObj l o')) (hIxp : ∀ c V l o o', Ix c V → w.heap.size ≤ l → V.heap[l]? = some o → o.isCells = false → Ix c (V.putObj l o'))
    (hKp : ∀ V V' l o o', Kp V V' → w.heap.size ≤ l → V'.heap[l]? = some o → o.isCells = false → Kp V (V'.putObj l o')) (h0 : I 0 w)
    (hround : ∀ (l k : Nat) (W : World), k < N → I k W → w.heap.size ≤ l → (∃ r, W.heap[l]? = some (.loop r)) →
      assign.wpIn (Fence.wide.inRound l) (n - 1 - 1) P (Exit.then (fun a1 W1 => KeepsFrom w.heap.size W W1 ∧ ∀ r, body.wpIn (Fence.wide.inRound l) (n - 1 - 1) P (seqPost w.heap.size Kp I Ix k W (W1.putObj l (.loop r))) a1 (W1.putObj l (.loop r))) (fun _ _ _ => False))
        { tmps := (ps.zip (vals k)).foldl (fun t (p, v) => t.setIfInBounds p v) a.tmps, defers := [] } W)
    (hdone : ∀ (D : Nat) (W : World), w.heap.size ≤ D → I N W → W.heap[D]? = some (.deferred (some [])) → Q .normal { a with defers := { target := .collected D, args := #[] } :: a.defers } W)
    (hstop : ∀ (D : Nat) (c : Code) (W : World), w.heap.size ≤ D → Ix c W → W.heap[D]? = some (.deferred (some [])) → c.wpIn Fence.wide n P Q { a with defers := { target := .collected D, args := #[] } :: a.defers } W) :
    (Code.rangeFunc g ps assign body).wpIn Fence.wide n P Q a w := by
  refine wpIn_rangeFunc fun fn hfn => ?_
  let rc : LoopState → Option Code → Loop := fun st pe => { state := st, pending := pe, fn, tmps := a.tmps, params := ps, assign, body, defers := w.heap.size }
  have hen : (Instr.enterLoop fn a.tmps ps assign body Fence.wide.round).run P w = .ok (w.heap.size + 1, [{ target := .collected w.heap.size, args := #[] }]) ((w.alloc (.deferred (some []))).alloc (.loop (rc .ready none))) := run_enterLoop_outer (P := P) (w := w) fn a.tmps ps assign body
  generalize hW1 : (w.alloc (.deferred (some []))).alloc (.loop (rc .ready none)) = W1 at hen
  have hb1 : Below w.heap.size w W1 := by
    rw [← hW1]; exact ((Below.refl _ w).alloc (Nat.le_refl _) _).alloc (by simp) _
  have hL : W1.heap[w.heap.size + 1]? = some (.loop (rc .ready none)) := by
    rw [← hW1]
    have := heap_new (w.alloc (.deferred (some []))) (.loop (rc .ready none))
    rwa [World.size_alloc] at this
  have hD : W1.heap[w.heap.size]? = some (.deferred (some [])) := by
    rw [← hW1]; exact (heap_old _ _ (by simp)).trans (heap_new _ _)
  have hI1 : I 0 W1 := hI 0 w W1 h0 hb1
  clear hW1
  refine ⟨w.heap.size + 1, _, W1, { target := .fn (.func gf) lb, args := #[.func (.yield (w.heap.size + 1)) #[] #[]] }, W1, gf, #[.func (.yield (w.heap.size + 1)) #[] #[]] ++ lb, W1, hen, ?_, fun _ _ => trivial, ?_, fun _ => h1, ?_⟩
  · simp only [resolve, hg]
    simp [go_sem]
  · simp [invoke, go_sem, eg]
  · refine (hgive (w.heap.size + 1) (fun k V => I k V ∧ V.heap[w.heap.size + 1]? = some (.loop (rc .ready none)) ∧ V.heap[w.heap.size]? = some (.deferred (some [])))
      (fun V => ∃ c, Ix c V ∧ V.heap[w.heap.size + 1]? = some (.loop (rc .done (some c))) ∧ V.heap[w.heap.size]? = some (.deferred (some []))) W1 hb1
      (fun k V V' h hb => ⟨hI k V V' h.1 hb, below_other hb h.2.1, below_other hb h.2.2⟩) (fun V V' h hb => by
        obtain ⟨c, h1, h2, h3⟩ := h
        exact ⟨c, hIx c V V' h1 hb, below_other hb h2, below_other hb h3⟩) ?_ ⟨hI1, hL, hD⟩).mono ?_
    · rintro k V hk ⟨hi, hl, hd⟩
      refine ⟨fn, _, assign, body, run_yield (P := P) hl (hps k), roundIn_of_wpIn hfn (wpIn_mono (hround (w.heap.size + 1) k V hk hi (by omega) ⟨_, hl⟩) ?_)⟩
      intro e a1 V1 hp
      cases e with
      | normal =>
        obtain ⟨hkf, hbody⟩ := hp
        have hl1 := hkf.same _ _ (by omega) hl rfl
        have hd1 := hkf.same _ _ (Nat.le_refl _) hd rfl
        refine ⟨_, run_beginRound hl1 rfl, ?_⟩
        have hl2 : (V1.putObj (w.heap.size + 1) (.loop { rc .ready none with state := .busy })).heap[w.heap.size + 1]? = some (.loop { rc .ready none with state := .busy }) := World.putObj_heap_same (lt_of_block hl1)
        have hd2 : (V1.putObj (w.heap.size + 1) (.loop { rc .ready none with state := .busy })).heap[w.heap.size]? = some (.deferred (some [])) := (World.putObj_heap_other (by omega)).trans hd1
        refine wpIn_mono (hbody _) ?_
        have fin : ∀ (j : Option Code) (V3 : World), KeepsFrom w.heap.size (V1.putObj (w.heap.size + 1) (.loop { rc .ready none with state := .busy })) V3 →
            ∃ o : Obj, V3.heap[w.heap.size + 1]? = some o ∧ o.isCells = false ∧ (Instr.endRound (w.heap.size + 1) j).run P V3 = .ok (.bool j.isNone) (V3.putObj (w.heap.size + 1) (.loop (rc (if j.isNone then .ready else .done) j))) ∧
              (V3.putObj (w.heap.size + 1) (.loop (rc (if j.isNone then .ready else .done) j))).heap[w.heap.size + 1]? = some (.loop (rc (if j.isNone then .ready else .done) j)) ∧ (V3.putObj (w.heap.size + 1) (.loop (rc (if j.isNone then .ready else .done) j))).heap[w.heap.size]? = some (.deferred (some [])) := fun j V3 hk3 => by
          have hl3 := hk3.same _ _ (by omega) hl2 rfl
          exact ⟨_, hl3, rfl, run_endRound (P := P) j hl3, World.putObj_heap_same (lt_of_block hl3), (World.putObj_heap_other (by omega)).trans (hk3.same _ _ (Nat.le_refl _) hd2 rfl)⟩
        intro e3 a3 V3 hq
        cases e3 with
        | normal =>
          obtain ⟨hk3, hkp, hi3⟩ := hq
          obtain ⟨o, ho, hc, hr, hl4, hd4⟩ := fin none V3 hk3
          exact ⟨_, _, hr, Or.inl ⟨rfl, ⟨hIp _ _ _ _ _ hi3 (by omega) ho hc, hl4, hd4⟩, hKp _ _ _ _ _ hkp (by omega) ho hc⟩⟩
        | ret =>
          obtain ⟨hk3, hi3⟩ := hq
          obtain ⟨o, ho, hc, hr, hl4, hd4⟩ := fin (some .ret) V3 hk3
          exact ⟨_, _, hr, Or.inr ⟨rfl, .ret, hIxp _ _ _ _ _ hi3 (by omega) ho hc, hl4, hd4⟩⟩
        | exit id =>
          obtain ⟨hk3, hi3⟩ := hq
          obtain ⟨o, ho, hc, hr, hl4, hd4⟩ := fin (some (.exit id)) V3 hk3
          exact ⟨_, _, hr, Or.inr ⟨rfl, .exit id, hIxp _ _ _ _ _ hi3 (by omega) ho hc, hl4, hd4⟩⟩
        | goto t =>
          obtain ⟨hk3, hi3⟩ := hq
          obtain ⟨o, ho, hc, hr, hl4, hd4⟩ := fin (some (.goto t)) V3 hk3
          exact ⟨_, _, hr, Or.inr ⟨rfl, .goto t, hIxp _ _ _ _ _ hi3 (by omega) ho hc, hl4, hd4⟩⟩
        | panic ch => exact hq.elim
        | outgrown => exact hq.elim
      | ret => exact hp.elim
      | exit id => exact hp.elim
      | goto t => exact hp.elim
      | panic ch => exact hp.elim
      | outgrown => exact hp.elim
    · rintro e V ⟨⟨v, rfl⟩, (⟨hi, hl, hd⟩ | ⟨c, hi, hl, hd⟩)⟩
      · exact ⟨none, _, run_endLoop (P := P) hl (by intro h; cases h), hdone _ _ (Nat.le_refl _) (hIp _ _ _ _ _ hi (by omega) hl rfl) ((World.putObj_heap_other (by omega)).trans hd)⟩
      · exact ⟨some c, _, run_endLoop (P := P) hl (by intro h; cases h), hstop _ c _ (Nat.le_refl _) (hIxp _ _ _ _ _ hi (by omega) hl rfl) ((World.putObj_heap_other (by omega)).trans hd)⟩

attribute [local go_sem] Oper.semAt_some

/-- The row as the iterator reads it. -/
def RowU (Bn g n c : Nat) (e : Nat → Nat) (W : World) : Prop :=
  W.cell? ⟨Bn, 0, none⟩ = some (.slice (some ⟨g, 0, none⟩) n c) ∧ ∀ j, j < n → W.cell? ⟨g, j, none⟩ = some (.int .u64 (e j))

def KpU (Bn g n c : Nat) (e : Nat → Nat) (W W' : World) : Prop := RowU Bn g n c e W → RowU Bn g n c e W'

theorem KpU.trans {Bn g n c : Nat} {e : Nat → Nat} {A B C : World} (h : KpU Bn g n c e A B) (k : KpU Bn g n c e B C) : KpU Bn g n c e A C := fun hr => k (h hr)

theorem KpU.of_same {Bn g n c : Nat} {e : Nat → Nat} {W W' : World} (h1 : W'.heap[Bn]? = W.heap[Bn]?) (h2 : W'.heap[g]? = W.heap[g]?) : KpU Bn g n c e W W' := by
  rintro ⟨hb, hr⟩
  refine ⟨(World.cell?_of_block (w := W) (a := ⟨Bn, 0, none⟩) h1).trans hb, fun j hj => ?_⟩
  exact (World.cell?_of_block (w := W) (a := ⟨g, j, none⟩) h2).trans (hr j hj)

set_option maxHeartbeats 2000000 in
set_option maxRecDepth 100000 in
theorem back1_seq (m : Nat) (hm : 1 ≤ m) (l Bn g n c : Nat) (e : Nat → Nat) (hn : n ≤ 9223372036854775807) (J : Nat → World → Prop) (Jx : World → Prop)
    (hY : ∀ (k : Nat) (W : World), k < n → J k W → YieldAt Fence.wide (m - 1) Tryz.prog l #[.int .i64 ((n - 1 - k : Nat) : Int), .int .u64 (e (n - 1 - k))] W fun e1 W' =>
      (e1 = .returned (.bool true) ∧ J (k + 1) W' ∧ KpU Bn g n c e W W') ∨ (e1 = .returned (.bool false) ∧ Jx W'))
    (W : World) (hr : RowU Bn g n c e W) (h0 : J 0 W) :
    CallsIn Fence.wide m Tryz.prog 255 #[.func (.yield l) #[] #[], .pointer (some ⟨Bn, 0, none⟩)] W fun e1 W' => (∃ v, e1 = .returned v) ∧ (J n W' ∨ Jx W') := by
  have HR := hideP hr
  have HY := hideP hY
  have hBn := hr.1
  have e0 : IntKind.i64.wrap ((n : Int) - 1) = (n : Int) - 1 := by rw [IntKind.wrap_i64]; omega
  have HNN := hideP hn
  clear hY hr hn
  refine callsIn_of_wp Tryz.func255 rfl trivial ?_ rfl
  simp only [Tryz.ntmps255, List.size_toArray, List.length_cons, List.length_nil, Nat.reduceAdd, Nat.reduceSub, Array.replicate_succ, Array.replicate_zero, List.push_toArray, List.append_toArray, List.nil_append, List.cons_append]
  gi_wp2
  clear hBn
  gi_loopw [3] (fun i wr => ∃ k : Nat, k ≤ n ∧ i = .int .i64 ((n : Int) - 1 - (k : Int)) ∧ J k wr ∧ Hid (RowU Bn g n c e wr)) (fun i _ => (intOf i + 1).toNat)
  case atStart => exact ⟨0, Nat.zero_le _, by simp, h0, HR⟩
  case round =>
    obtain ⟨k, hk, rfl, hJ, hR⟩ := hrel
    by_cases hlt : k < n
    · have hBn := hR.out.1
      have c0 := hR.out.2 (n - 1 - k) (by omega)
      have hj : (n : Int) - 1 - (k : Int) = ((n - 1 - k : Nat) : Int) := by omega
      obtain ⟨fn, tmps, assign, body, hy, hRd⟩ := HY.out k wr hlt hJ
      have g1 : ((n - 1 - k : Nat) : Int) ≥ 0 := by omega
      have g1' : (0 : Int) ≤ ((n - 1 - k : Nat) : Int) := by omega
      have g2 : ((n - 1 - k : Nat) : Int) < (n : Int) := by omega
      have e1 : IntKind.i64.wrap (((n - 1 - k : Nat) : Int) - 1) = ((n - 1 - k : Nat) : Int) - 1 := by have := HNN.out; rw [IntKind.wrap_i64]; omega
      have HK := hideP hlt
      have HE : Hid (((n - 1 - k : Nat) : Int) - 1 = (n : Int) - 1 - ((k + 1 : Nat) : Int)) := (by omega : ((n - 1 - k : Nat) : Int) - 1 = (n : Int) - 1 - ((k + 1 : Nat) : Int))
      rw [hj]
      clear hJ hk hlt hj
      generalize n - 1 - k = j at *
      generalize e j = ej at *
      gi_wp2
      refine hRd.mono ?_
      rintro e3 W3 (⟨rfl, hJ3, hk3⟩ | ⟨rfl, hJx3⟩)
      · have HR3 := hideP (hk3 hR.out)
        have HJ3 := hideP hJ3
        clear hJ3 hk3 hRd c0 hBn
        gi_wp2
        exact ⟨⟨k + 1, HK.out, by rw [HE.out], HJ3.out, HR3⟩, by simp [intOf] <;> omega⟩
      · gi_wp2
        refine bodyPost_ret (results_none rfl _ _ _) rfl ?_
        exact ⟨⟨_, rfl⟩, .inr hJx3⟩
    · have hkl : k = n := by omega
      subst hkl
      have HJ := hideP hJ
      have hj : (k : Int) - 1 - (k : Int) = -1 := by omega
      rw [hj]
      clear hJ
      gi_wp2
      go_end0
      exact ⟨⟨_, rfl⟩, .inl HJ.out⟩

set_option maxHeartbeats 2000000 in
set_option maxRecDepth 100000 in
theorem back1_nil (m : Nat) (l Bn c : Nat) (ao : Option Addr) (W : World) (hBn : W.cell? ⟨Bn, 0, none⟩ = some (.slice ao 0 c)) :
    CallsIn Fence.wide m Tryz.prog 255 #[.func (.yield l) #[] #[], .pointer (some ⟨Bn, 0, none⟩)] W fun e W' => (∃ v, e = .returned v) ∧ W' = W := by
  refine callsIn_of_wp Tryz.func255 rfl trivial ?_ rfl
  simp only [Tryz.ntmps255, List.size_toArray, List.length_cons, List.length_nil, Nat.reduceAdd, Nat.reduceSub, Array.replicate_succ, Array.replicate_zero, List.push_toArray, List.append_toArray, List.nil_append, List.cons_append]
  gi_wp2
  gi_loopw [3] (fun i wr => i = .int .i64 (-1) ∧ wr = W) (fun _ _ => 0)
  case atStart => exact ⟨rfl, rfl⟩
  case round =>
    obtain ⟨rfl, rfl⟩ := hrel
    gi_wp2
    go_end0
    exact ⟨⟨_, rfl⟩, rfl⟩

set_option maxHeartbeats 2000000 in
set_option maxRecDepth 100000 in
theorem back_in (m : Nat) (ao : Option Addr) (n c : Nat) (w : World) :
    CallsIn Fence.wide m Tryz.prog 252 #[.slice ao n c] w fun e w' => e = .returned (.func (.func 255) #[] #[.pointer (some ⟨w.heap.size, 0, none⟩)]) ∧ w' = w.alloc (.cells #[.slice ao n c] 37) := by
  refine callsIn_of_wp Tryz.func252 rfl trivial ?_ rfl
  simp only [Tryz.ntmps252, List.size_toArray, List.length_cons, List.length_nil, Nat.reduceAdd, Nat.reduceSub, Array.replicate_succ, Array.replicate_zero, List.push_toArray, List.append_toArray, List.nil_append, List.cons_append]
  gi_wp2
  go_ret
  exact ⟨rfl, rfl⟩

theorem back_gives (m : Nat) (hm : 1 ≤ m) (Bn g n c : Nat) (e : Nat → Nat) (hn : n ≤ 9223372036854775807) (w : World) (hr : RowU Bn g n c e w) (hg : g < w.heap.size) :
    Gives m Tryz.prog 255 #[.pointer (some ⟨Bn, 0, none⟩)] (fun k => #[.int .i64 ((n - 1 - k : Nat) : Int), .int .u64 (e (n - 1 - k))]) n (KpU Bn g n c e) w := by
  intro l J Jx W hW _ _ hY h0
  have hB : Bn < w.heap.size := World.block_lt_of_cell? w _ hr.1
  exact back1_seq m hm l Bn g n c e hn J Jx hY W (KpU.of_same (hW.block _ hB) (hW.block _ hg) hr) h0

theorem back_gives_nil (m : Nat) (Bn c : Nat) (ao : Option Addr) (Kp : World → World → Prop) (vals : Nat → Array Value) (w : World) (hBn : w.cell? ⟨Bn, 0, none⟩ = some (.slice ao 0 c)) :
    Gives m Tryz.prog 255 #[.pointer (some ⟨Bn, 0, none⟩)] vals 0 Kp w := by
  intro l J Jx W hW _ _ hY h0
  have hBn' := (hW.cell (p := ⟨Bn, 0, none⟩) (World.block_lt_of_cell? w _ hBn)).trans hBn
  refine (back1_nil m l Bn c ao W hBn').mono ?_
  rintro e W' ⟨hv, rfl⟩
  exact ⟨hv, .inl h0⟩

end Go.Proofs.YtcbdbnfgnonacaaGreat
