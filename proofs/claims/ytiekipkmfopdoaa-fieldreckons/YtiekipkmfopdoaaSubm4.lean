/-
  Differences of elements.
-/
import Derived.Test.YtiekipkmfopdoaaRaise4
namespace Go.Proofs.Ytiekipkmfopdoaa.W4
open Go.RowKit Go.Shelf

theorem sub_mod {X Y m : Nat} (hX : X < m) (hY : Y < m) (hm : m < R) : (X + (m - Y)) % m = if less1 X Y = 1 then (X + R * less1 X Y - Y + m) % R else X + R * less1 X Y - Y := by
  unfold less1
  by_cases h : X < Y
  · simp only [h, if_true]
    rw [Nat.mod_eq_of_lt (by omega), show X + R * 1 - Y + m = X + (m - Y) + R by omega, Nat.add_mod_right, Nat.mod_eq_of_lt (by omega)]
  · simp only [h, if_false]
    rw [show X + (m - Y) = X - Y + m by omega, Nat.add_mod_right, Nat.mod_eq_of_lt (by omega)]
    simp

set_option maxHeartbeats 4000000 in
set_option maxRecDepth 100000 in
theorem subtract_any {p m f o r : Nat} {w : World} (hr : RingAt w p m f o r) (h : MF m f) (X Y : Nat) (hX : X < m) (hY : Y < m) :
    Calls Try.prog 85 #[.pointer (some ⟨p, 0, none⟩), wv X, wv Y] w fun e w' => e = .returned (wv ((X + (m - Y)) % m)) ∧ Below w.heap.size w w' := by
  have hp : p < w.heap.size := hr.lt
  have hm := h.lt
  have HC := hideP (fun w => minus_any X Y (by omega) (by omega) w)
  have HP := hideP (fun w => plus_any (X + R * less1 X Y - Y) m (minus_lt (by omega) (by omega)) hm w)
  rw [sub_mod hX hY hm]
  have hl1 : less1 X Y = 0 ∨ less1 X Y = 1 := by unfold less1; split <;> simp
  have HR := hideP hr
  clear hr h hm hX hY
  generalize X + R * less1 X Y - Y = D at *
  generalize (D + m) % R = E at *
  generalize (D + m) / R = cE at *
  generalize less1 X Y = b at *
  unfold wv at HC HP ⊢
  have HRES : Hid (Value.agg (cs (limb (if b = 1 then E else D))) = if b = 1 then .agg (cs (limb E)) else .agg (cs (limb D))) := by
    show _ = _
    split <;> rfl
  rw [HRES.out]
  rw [show cs (limb X) = #[.int .u64 (limb X 0), .int .u64 (limb X 1), .int .u64 (limb X 2), .int .u64 (limb X 3)] from rfl, show cs (limb Y) = #[.int .u64 (limb Y 0), .int .u64 (limb Y 1), .int .u64 (limb Y 2), .int .u64 (limb Y 3)] from rfl] at HC ⊢
  rw [show cs (limb D) = #[.int .u64 (limb D 0), .int .u64 (limb D 1), .int .u64 (limb D 2), .int .u64 (limb D 3)] from rfl] at HC
  clear HRES
  go_enter Try.func85, Try.ntmps85
  go_wp2_with fail
  rename_i Q' KA hKA KB hKB
  have HKA := hideP hKA
  clear hKA
  refine at_world_q (fun W0 hW0 => ?_)
  have hD : W0.heap[w.heap.size + 1 + 1]? = some (.cells (cs (fun _ => 0)) 24 (0, 0)) := by
    rw [hW0]
    exact heap_new2 _ _ _ _
  have HBW : Hid (Below w.heap.size w W0) := by
    show Below _ _ _
    rw [hW0]
    repeat first | exact Below.refl _ _ | (refine Below.alloc ?_ (by simp <;> omega) _)
  clear hW0
  refine (HC.out _).mono ?_
  rintro e w1 ⟨rfl, hb⟩
  have HR1 := hideP (HR.out.belowN hp (HBW.out.trans (hb.mono HBW.out.size)))
  have HD1 := hideP ((hb.block _ (lt_of_block hD)).trans hD)
  have HB1 := hideP (HBW.out.trans (hb.mono HBW.out.size))
  clear hb hD HBW HC HR
  go_wp2_with fail
  refine at_worldK (fun W1 hW1 => ?_)
  have h7 : W1.heap[w1.heap.size]? = some (.cells (cs (limb D)) 24 (0, 0)) := by
    rw [hW1]
    exact heap_new _ _
  have hb1 : Below w1.heap.size w1 W1 := by
    rw [hW1]
    exact (Below.refl _ _).alloc (Nat.le_refl _) _
  have HR2 := hideP (HR1.out.below hb1)
  have HD2 := hideP ((hb1.block _ (lt_of_block HD1.out)).trans HD1.out)
  have HB2 := hideP (HB1.out.trans (hb1.mono HB1.out.size))
  have H7 := hideP h7
  have n7 : p ≠ w1.heap.size := by have := HR1.out.lt; omega
  have nD : w.heap.size + 1 + 1 ≠ w1.heap.size := by have := lt_of_block HD1.out; omega
  have nW : w.heap.size ≤ w1.heap.size := HB1.out.size
  clear hW1 hb1 h7 HR1 HD1 HB1
  generalize w1.heap.size = b7 at *
  refine HKA.out _ _ ?_
  refine wp_seqH (fun K1 HK1 => ?_)
  refine wp_seqH (fun K2 HK2 => ?_)
  rcases hl1 with rfl | rfl
  · go_wp2_with fail
    refine HK2.out _ _ ?_
    refine wp_cond_false rfl (wp_skip ?_)
    refine HK1.out _ _ ?_
    refine endRowQ (fun _ _ h => h) rfl rfl rfl (by decide) (by show 26 < 27; decide) rfl under rfl (info _) (one _) (rangeOf H7.out) (there_cs HD2.out _) ?_
    intro wS hBut
    exact ⟨by rw [if_neg (show ¬ (0 = 1) by decide)], HB2.out.trans (hBut.below.mono (by omega))⟩
  · go_wp2_with fail
    refine HK2.out _ _ ?_
    refine wp_cond_true rfl ?_
    refine wp_region_heldS (S := fun V => KP W1 b7 V) (by kernel_rfl) (KP.init H7.out) (fun hS => ?_)
    refine wpAnyH_takeL (i := 1) (v := ?_) rfl (by kernel_rfl) (by kernel_rfl) (by kernel_rfl) (fun _ _ _ h => h) (Or.inl ⟨by kernel_rfl, ?_⟩) hS ?_
    rotate_left
    · intro V hV
      go_simp
      (try with_reducible rfl)
    simp only [put_list, List.set_cons_succ, List.set_cons_zero]
    refine wpAnyH_takeL (i := 2) (v := ?_) rfl (by kernel_rfl) (by kernel_rfl) (by kernel_rfl) (fun _ _ _ h => h) (Or.inl ⟨by kernel_rfl, ?_⟩) hS ?_
    rotate_left
    · intro V hV
      go_simp
      (try with_reducible rfl)
    simp only [put_list, List.set_cons_succ, List.set_cons_zero]
    refine wpAnyH_takeL (i := 3) (v := ?_) rfl (by kernel_rfl) (by kernel_rfl) (by kernel_rfl) (fun _ _ _ h => h) (Or.inl ⟨by kernel_rfl, ?_⟩) hS ?_
    rotate_left
    · intro V hV
      go_simp
      (try with_reducible rfl)
    simp only [put_list, List.set_cons_succ, List.set_cons_zero]
    refine wpAnyH_takeL (i := 4) (v := .agg (cs (limb m))) rfl (by kernel_rfl) (by kernel_rfl) (by kernel_rfl) (fun _ _ _ h => h) (yieldsIf_load_mid (by kernel_rfl) 24 _ rfl (p) (0) rfl (cs (limb m)).toList _ (fun V hV => (hV.ring HR2.out n7).mod) under rfl (info _)) hS ?_
    simp only [put_list, List.set_cons_succ, List.set_cons_zero]
    refine wpAnyH_ready (rs := [0]) (by kernel_rfl) (by simp) (AllReadyH.cons rfl (fun K hK => ?_) AllReadyH.nil)
    refine ite_wp (by kernel_rfl) ?_
    refine wp_load_midD 24 (.tmp 7) 18 rfl rfl (b7) (0) (cs (limb D)) rfl _ (rangeOf H7.out) under rfl (info _) ?_
    refine hK.out _ _ hS (fun hS => ?_)
    clear hK K
    simp only [List.set_cons_succ, List.set_cons_zero]
    refine wpAnyH_ready (rs := [5]) (by kernel_rfl) (by simp) (AllReadyH.cons rfl (fun K hK => ?_) AllReadyH.nil)
    go_simp
    refine (HP.out _).mono ?_
    rintro e w2 ⟨rfl, hbc⟩
    refine hK.out _ _ (hS.call hbc) (fun hS => ?_)
    clear hK K
    clear hbc
    refine wpAnyH_takeL (i := 6) (v := ?_) rfl (by kernel_rfl) (by kernel_rfl) (by kernel_rfl) (fun _ _ _ h => h) (Or.inl ⟨by kernel_rfl, ?_⟩) hS ?_
    rotate_left
    · intro V hV
      go_simp
      (try with_reducible rfl)
    simp only [put_list, List.set_cons_succ, List.set_cons_zero]
    refine wpAnyH_takeL (i := 7) (v := ?_) rfl (by kernel_rfl) (by kernel_rfl) (by kernel_rfl) (fun _ _ _ h => h) (Or.inl ⟨by kernel_rfl, ?_⟩) hS ?_
    rotate_left
    · intro V hV
      go_simp
      (try with_reducible rfl)
    simp only [put_list, List.set_cons_succ, List.set_cons_zero]
    refine wpAnyH_takeL (i := 8) (v := ?_) rfl (by kernel_rfl) (by kernel_rfl) (by kernel_rfl) (fun _ _ _ h => h) (Or.inl ⟨by kernel_rfl, ?_⟩) hS ?_
    rotate_left
    · intro V hV
      go_simp
      (try with_reducible rfl)
    simp only [put_list, List.set_cons_succ, List.set_cons_zero]
    refine wpAnyH_ready (rs := [9]) (by kernel_rfl) (by simp) (AllReadyH.cons rfl (fun K hK => ?_) AllReadyH.nil)
    refine ite_wp (by kernel_rfl) ?_
    refine wp_store_midN 24 (.tmp 7) (.tmp 24) rfl rfl (b7) 0 (cs (limb E)) rfl rfl (hS.there _) (info _) (one _) ?_
    have g1 := hS.put ((limb E))
    have hS9 := hS.store ((limb E))
    clear hS
    generalize World.setCells _ (b7) 0 (cs (limb E)).toList = w3 at g1 hS9 ⊢
    refine hK.out _ _ hS9 (fun hS => ?_)
    clear hK K hS9
    refine wpAnyH_done (by kernel_rfl) ?_ _
    (try simp only [put_none])
    refine HK1.out _ _ ?_
    refine endRowQ (fun _ _ h => h) rfl rfl rfl (by decide) (by show 26 < 27; decide) rfl under rfl (info _) (one _) (rangeOf g1) (there_cs (hS.box HD2.out nD) _) ?_
    intro wS hBut
    exact ⟨by rw [if_pos rfl], HB2.out.trans ((hS.below.mono nW).trans (hBut.below.mono (by omega)))⟩

end Go.Proofs.Ytiekipkmfopdoaa.W4
