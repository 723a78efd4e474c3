/-
  What a call hands on; what the bytes of an exponent cost.
-/
import Derived.Test.YtaeadndihchbnaaDoorGasCallsC14
namespace Go.Proofs.YtaeadndihchbnaaDoor
open Go.RowKit Go.Shelf

theorem most_wrap0 (l : Nat) (h : l < 18446744073709551616) : IntKind.u64.wrap ((l : Int) / 64) = (l : Int) / 64 := by rw [IntKind.wrap_u64]; omega

theorem most_wrap (l : Nat) (h : l < 18446744073709551616) : IntKind.u64.wrap ((l : Int) - (l : Int) / 64) = (l : Int) - (l : Int) / 64 := by rw [IntKind.wrap_u64]; omega

set_option maxHeartbeats 2000000 in
set_option maxRecDepth 100000 in
theorem forward_any (l X : Nat) (hl : l < 18446744073709551616) (w : World) : Calls Tryd.prog 44 #[.int .u64 l, wv X] w fun e w' => e = .returned (.int .u64 (forwardN l (X % M256))) ∧ Below w.heap.size w w' := by
  obtain ⟨x0, x1, x2, x3, hX⟩ := wv_form X
  by_cases h1 : X % M256 < 18446744073709551616
  · by_cases h2 : X % M256 < l - l / 64
    · have hc := fun W => small_in X h1 W
      rw [show forwardN l (X % M256) = X % M256 from if_pos h2, hX]
      have gg : ((X % M256 : Nat) : Int) < (l : Int) - (l : Int) / 64 := by omega
      rw [hX] at hc
      have e0 := most_wrap0 l hl
      have e1 := most_wrap l hl
      generalize X % M256 = n at *
      have HC := hideP hc
      clear hc hX h1 hl h2
      go_enter Tryd.func44, Tryd.ntmps44
      go_wp2_with fail
      refine at_world_q (fun W0 hW0 => ?_)
      obtain ⟨HBx, HBW⟩ := box1 hW0
      clear hW0
      replace HBW := hideP HBW
      replace HBx := hideP HBx
      refine (HC.out _).mono ?_
      rintro e V1 ⟨rfl, hb⟩
      replace HBx := hideP ((hb.block _ (lt_of_block HBx.out)).trans HBx.out)
      replace HBW := hideP (HBW.out.trans (hb.mono HBW.out.size))
      clear hb
      go_wp2_with fail
      go_ret
      exact ⟨rfl, HBW.out⟩
    · have hc := fun W => small_in X h1 W
      rw [show forwardN l (X % M256) = l - l / 64 from if_neg h2, hX]
      have gg : ¬ ((X % M256 : Nat) : Int) < (l : Int) - (l : Int) / 64 := by omega
      rw [hX] at hc
      have e0 := most_wrap0 l hl
      have e1 := most_wrap l hl
      have e2 : ((l - l / 64 : Nat) : Int) = (l : Int) - (l : Int) / 64 := by omega
      rw [show Ending.returned (.int .u64 ((l - l / 64 : Nat) : Int)) = Ending.returned (.int .u64 ((l : Int) - (l : Int) / 64)) from by rw [e2]]
      generalize X % M256 = n at *
      have HC := hideP hc
      clear hc hX h1 hl h2 e2
      go_enter Tryd.func44, Tryd.ntmps44
      go_wp2_with fail
      refine at_world_q (fun W0 hW0 => ?_)
      obtain ⟨HBx, HBW⟩ := box1 hW0
      clear hW0
      replace HBW := hideP HBW
      replace HBx := hideP HBx
      refine (HC.out _).mono ?_
      rintro e V1 ⟨rfl, hb⟩
      replace HBx := hideP ((hb.block _ (lt_of_block HBx.out)).trans HBx.out)
      replace HBW := hideP (HBW.out.trans (hb.mono HBW.out.size))
      clear hb
      go_wp2_with fail
      go_ret
      exact ⟨rfl, HBW.out⟩
  · have hc := fun W => small_out X h1 W
    rw [show forwardN l (X % M256) = l - l / 64 from if_neg (by omega), hX]
    rw [hX] at hc
    have e0 := most_wrap0 l hl
    have e1 := most_wrap l hl
    have e2 : ((l - l / 64 : Nat) : Int) = (l : Int) - (l : Int) / 64 := by omega
    rw [show Ending.returned (.int .u64 ((l - l / 64 : Nat) : Int)) = Ending.returned (.int .u64 ((l : Int) - (l : Int) / 64)) from by rw [e2]]
    have HC := hideP hc
    clear hc hX h1 hl e2
    go_enter Tryd.func44, Tryd.ntmps44
    go_wp2_with fail
    refine at_world_q (fun W0 hW0 => ?_)
    obtain ⟨HBx, HBW⟩ := box1 hW0
    clear hW0
    replace HBW := hideP HBW
    replace HBx := hideP HBx
    refine (HC.out _).mono ?_
    rintro e V1 ⟨rfl, hb⟩
    replace HBx := hideP ((hb.block _ (lt_of_block HBx.out)).trans HBx.out)
    replace HBW := hideP (HBW.out.trans (hb.mono HBW.out.size))
    clear hb
    go_wp2_with fail
    go_ret
    exact ⟨rfl, HBW.out⟩

set_option maxHeartbeats 2000000 in
set_option maxRecDepth 100000 in
theorem rforward_any (l X : Nat) (hl : l < 18446744073709551616) (w : World) : Calls Tryd.prog 45 #[.int .u64 l, wv X] w fun e w' => e = .returned (.int .u64 (forwardN l (X % M256))) ∧ Below w.heap.size w w' := by
  have hm : (l - l / 64) % M256 = l - l / 64 := Nat.mod_eq_of_lt (by unfold M256; omega)
  by_cases h2 : X % M256 < l - l / 64
  · have hc1 := fun W => refOf_any (l - l / 64) (by omega) W
    have hc2 := fun W => refCmp_any X (l - l / 64) W
    rw [show cmpI (X % M256) ((l - l / 64) % M256) = -1 from if_pos (by rw [hm]; omega)] at hc2
    have e2 : ((l - l / 64 : Nat) : Int) = (l : Int) - (l : Int) / 64 := by omega
    rw [e2] at hc1
    have e0 := most_wrap0 l hl
    have e1 := most_wrap l hl
    obtain ⟨y0, y1, y2, y3, hY⟩ := wv_form (l - l / 64)
    rw [hY] at hc1 hc2
    rw [show forwardN l (X % M256) = X % M256 from if_pos h2]
    obtain ⟨k0, k1, k2, k3, q0, q1, q2, q3, eX, hX⟩ := wv_limbs X
    rw [eX] at h2 ⊢
    have hr : num k0 k1 k2 k3 = k0 := by unfold num at h2 ⊢; omega
    rw [hr, hX]
    rw [hX] at hc2
    clear hm h2 hX hY hl e2 q0 q1 q2 q3 hr eX
    have HC1 := hideP hc1
    have HC2 := hideP hc2
    clear hc1 hc2
    go_enter Tryd.func45, Tryd.ntmps45
    go_wp2_with fail
    refine at_world_t (fun W0 hW0 => ?_)
    obtain ⟨HBk, HBW⟩ := box1 hW0
    clear hW0
    replace HBW := hideP HBW
    replace HBk := hideP HBk
    obtain ⟨ck0, ck1, ck2, ck3⟩ := cells4 HBk.out
    have hlk := lt_of_block HBk.out
    refine wp_region_heldS (S := fun V => Below W0.heap.size W0 V) (by kernel_rfl) (Below.refl _ _).drew (fun hS => ?_)
    refine wpAnyH_takeL (i := 0) (v := ?_) rfl (by kernel_rfl) (by kernel_rfl) (by kernel_rfl) (fun _ _ _ h => h) (Or.inl ⟨by kernel_rfl, ?_⟩) hS ?_
    rotate_left
    · intro V hV
      have k0 := (hV.cell (p := ⟨w.heap.size, 0, none⟩) hlk).trans ck0
      have k1 := (hV.cell (p := ⟨w.heap.size, 1, none⟩) hlk).trans ck1
      have k2 := (hV.cell (p := ⟨w.heap.size, 2, none⟩) hlk).trans ck2
      have k3 := (hV.cell (p := ⟨w.heap.size, 3, none⟩) hlk).trans ck3
      go_simp
      (try with_reducible rfl)
    simp only [put_list, List.set_cons_succ, List.set_cons_zero]
    refine wpAnyH_takeL (i := 1) (v := ?_) rfl (by kernel_rfl) (by kernel_rfl) (by kernel_rfl) (fun _ _ _ h => h) (Or.inl ⟨by kernel_rfl, ?_⟩) hS ?_
    rotate_left
    · intro V hV
      go_simp
      (try with_reducible rfl)
    simp only [put_list, List.set_cons_succ, List.set_cons_zero]
    refine wpAnyH_ready (rs := [2]) (by kernel_rfl) (by simp) (AllReadyH.cons rfl (fun K hK => ?_) AllReadyH.nil)
    go_simp
    refine (HC1.out _).mono ?_
    rintro e U1 ⟨rfl, hbc⟩
    refine hK.out _ _ (hS.trans (hbc.mono hS.size)) (fun hS => ?_)
    clear hK K hbc
    refine wpAnyH_ready (rs := [3]) (by kernel_rfl) (by simp) (AllReadyH.cons rfl (fun K hK => ?_) AllReadyH.nil)
    go_simp
    refine (HC2.out _).mono ?_
    rintro e U2 ⟨rfl, hbc⟩
    refine hK.out _ _ (hS.trans (hbc.mono hS.size)) (fun hS => ?_)
    clear hK K hbc
    refine wpAnyH_takeL (i := 4) (v := ?_) rfl (by kernel_rfl) (by kernel_rfl) (by kernel_rfl) (fun _ _ _ h => h) (Or.inl ⟨by kernel_rfl, ?_⟩) hS ?_
    rotate_left
    · intro V hV
      go_simp
      (try with_reducible rfl)
    simp only [put_list, List.set_cons_succ, List.set_cons_zero]
    refine wpAnyH_done (by kernel_rfl) ?_ _
    replace HBW := hideP (HBW.out.trans (hS.mono HBW.out.size))
    replace HBk := hideP ((hS.block _ (lt_of_block HBk.out)).trans HBk.out)
    clear hS
    clear ck0 ck1 ck2 ck3 hlk
    obtain ⟨ck0, ck1, ck2, ck3⟩ := cells4 HBk.out
    have hlk := lt_of_block HBk.out
    go_wp2_with fail
    go_ret
    exact ⟨rfl, HBW.out⟩
  · have hc1 := fun W => refOf_any (l - l / 64) (by omega) W
    have hc2 := fun W => refCmp_any X (l - l / 64) W
    rw [show cmpI (X % M256) ((l - l / 64) % M256) = (if (l - l / 64) % M256 < X % M256 then 1 else 0) from if_neg (by rw [hm]; omega)] at hc2
    have e2 : ((l - l / 64 : Nat) : Int) = (l : Int) - (l : Int) / 64 := by omega
    rw [e2] at hc1
    have e0 := most_wrap0 l hl
    have e1 := most_wrap l hl
    obtain ⟨y0, y1, y2, y3, hY⟩ := wv_form (l - l / 64)
    rw [hY] at hc1 hc2
    rw [show forwardN l (X % M256) = l - l / 64 from if_neg h2, show Ending.returned (.int .u64 ((l - l / 64 : Nat) : Int)) = Ending.returned (.int .u64 ((l : Int) - (l : Int) / 64)) from by rw [e2]]
    obtain ⟨k0, k1, k2, k3, hX⟩ := wv_form X
    rw [hX] at hc2 ⊢
    have gg : ¬ (if (l - l / 64) % M256 < X % M256 then (1 : Int) else 0) < 0 := by split <;> omega
    generalize (if (l - l / 64) % M256 < X % M256 then (1 : Int) else 0) = z at *
    clear hm h2 hX hY hl e2
    have HC1 := hideP hc1
    have HC2 := hideP hc2
    clear hc1 hc2
    go_enter Tryd.func45, Tryd.ntmps45
    go_wp2_with fail
    refine at_world_t (fun W0 hW0 => ?_)
    obtain ⟨HBk, HBW⟩ := box1 hW0
    clear hW0
    replace HBW := hideP HBW
    replace HBk := hideP HBk
    obtain ⟨ck0, ck1, ck2, ck3⟩ := cells4 HBk.out
    have hlk := lt_of_block HBk.out
    refine wp_region_heldS (S := fun V => Below W0.heap.size W0 V) (by kernel_rfl) (Below.refl _ _).drew (fun hS => ?_)
    refine wpAnyH_takeL (i := 0) (v := ?_) rfl (by kernel_rfl) (by kernel_rfl) (by kernel_rfl) (fun _ _ _ h => h) (Or.inl ⟨by kernel_rfl, ?_⟩) hS ?_
    rotate_left
    · intro V hV
      have k0 := (hV.cell (p := ⟨w.heap.size, 0, none⟩) hlk).trans ck0
      have k1 := (hV.cell (p := ⟨w.heap.size, 1, none⟩) hlk).trans ck1
      have k2 := (hV.cell (p := ⟨w.heap.size, 2, none⟩) hlk).trans ck2
      have k3 := (hV.cell (p := ⟨w.heap.size, 3, none⟩) hlk).trans ck3
      go_simp
      (try with_reducible rfl)
    simp only [put_list, List.set_cons_succ, List.set_cons_zero]
    refine wpAnyH_takeL (i := 1) (v := ?_) rfl (by kernel_rfl) (by kernel_rfl) (by kernel_rfl) (fun _ _ _ h => h) (Or.inl ⟨by kernel_rfl, ?_⟩) hS ?_
    rotate_left
    · intro V hV
      go_simp
      (try with_reducible rfl)
    simp only [put_list, List.set_cons_succ, List.set_cons_zero]
    refine wpAnyH_ready (rs := [2]) (by kernel_rfl) (by simp) (AllReadyH.cons rfl (fun K hK => ?_) AllReadyH.nil)
    go_simp
    refine (HC1.out _).mono ?_
    rintro e U1 ⟨rfl, hbc⟩
    refine hK.out _ _ (hS.trans (hbc.mono hS.size)) (fun hS => ?_)
    clear hK K hbc
    refine wpAnyH_ready (rs := [3]) (by kernel_rfl) (by simp) (AllReadyH.cons rfl (fun K hK => ?_) AllReadyH.nil)
    go_simp
    refine (HC2.out _).mono ?_
    rintro e U2 ⟨rfl, hbc⟩
    refine hK.out _ _ (hS.trans (hbc.mono hS.size)) (fun hS => ?_)
    clear hK K hbc
    refine wpAnyH_takeL (i := 4) (v := ?_) rfl (by kernel_rfl) (by kernel_rfl) (by kernel_rfl) (fun _ _ _ h => h) (Or.inl ⟨by kernel_rfl, ?_⟩) hS ?_
    rotate_left
    · intro V hV
      go_simp
      (try with_reducible rfl)
    simp only [put_list, List.set_cons_succ, List.set_cons_zero]
    refine wpAnyH_done (by kernel_rfl) ?_ _
    replace HBW := hideP (HBW.out.trans (hS.mono HBW.out.size))
    replace HBk := hideP ((hS.block _ (lt_of_block HBk.out)).trans HBk.out)
    clear hS
    clear ck0 ck1 ck2 ck3 hlk
    obtain ⟨ck0, ck1, ck2, ck3⟩ := cells4 HBk.out
    have hlk := lt_of_block HBk.out
    go_wp2_with fail
    go_ret
    exact ⟨rfl, HBW.out⟩

end Go.Proofs.YtaeadndihchbnaaDoor
