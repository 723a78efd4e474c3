/-
  A word as an int, if it is below an end.
-/
import Derived.Test.YtpnijncoldihfaaBitsC16
namespace Go.Proofs.Ytpnijncoldihfaa
open Go.RowKit Go.Shelf

theorem small_limbs {x0 x1 x2 x3 e : Nat} (he : e < 18446744073709551616) (h : num x0 x1 x2 x3 < e) : num x0 x1 x2 x3 = x0 ∧ x0 < e := by
  unfold num at *
  omega

theorem small_mod {e : Nat} (he : e < 18446744073709551616) : e % M256 = e := Nat.mod_eq_of_lt (by unfold M256; omega)

set_option maxHeartbeats 1000000 in
set_option maxRecDepth 100000 in
theorem within_in (N en : Nat) (he : en < 9223372036854775808) (h : N % M256 < en) (w : World) : Calls Try.prog 104 #[wv N, .int .i64 en] w fun e w' => e = .returned (.tuple #[.int .i64 ((N % M256 : Nat) : Int), .bool true]) ∧ Below w.heap.size w w' := by
  have hof := fun W => of_any en (by omega) W
  have hcm := fun W => cmp_any N en W
  rw [small_mod (by omega : en < 18446744073709551616)] at hcm
  rw [cmpI_lt h] at hcm
  have hwe : IntKind.u64.wrap (en : Int) = en := by rw [IntKind.wrap_u64]; omega
  obtain ⟨x0, x1, x2, x3, h0, h1, h2, h3, eX, hX⟩ := wv_limbs N
  rw [eX] at h ⊢
  obtain ⟨hn, hlt⟩ := small_limbs (by omega) h
  rw [hn]
  have hwi : IntKind.i64.wrap (x0 : Int) = x0 := by rw [IntKind.wrap_i64]; omega
  obtain ⟨e0, e1, e2, e3, hE⟩ := wv_form en
  simp only [hX, hE] at hof hcm ⊢
  have HOF := hideP hof
  have HCM := hideP hcm
  clear hof hcm hX hE h h1 h2 h3 h0 eX hn hlt he
  go_enter Try.func104, Try.ntmps104
  go_wp2_with fail
  refine at_world (fun W0 hW0 => ?_)
  have cx0 : W0.cell? ⟨w.heap.size, 0, none⟩ = some (.int .u64 x0) := by rw [hW0]; simp
  have cx1 : W0.cell? ⟨w.heap.size, 1, none⟩ = some (.int .u64 x1) := by rw [hW0]; simp
  have cx2 : W0.cell? ⟨w.heap.size, 2, none⟩ = some (.int .u64 x2) := by rw [hW0]; simp
  have cx3 : W0.cell? ⟨w.heap.size, 3, none⟩ = some (.int .u64 x3) := by rw [hW0]; simp
  have hlx : w.heap.size < W0.heap.size := by rw [hW0]; simp
  have HB : Hid (Below w.heap.size w W0) := by
    show Below _ _ _
    rw [hW0]
    repeat first | exact Below.refl _ _ | apply Below.drew | (refine Below.alloc ?_ (by simp <;> omega) _) | (refine Below.setCell ?_ (by simp <;> omega) _)
  clear hW0
  refine wp_region_heldS (S := fun V => Below W0.heap.size W0 V) (by kernel_rfl) (Below.refl _ _).drew (fun hS => ?_)
  refine wpAnyH_take (i := 0) (v := ?_) rfl (by kernel_rfl) (by kernel_rfl) (by kernel_rfl) (fun _ _ _ h => h) (Or.inl ⟨by rfl, ?_⟩) hS ?_
  rotate_left
  · intro V hV
    have k0 := (hV.cell (p := ⟨w.heap.size, 0, none⟩) hlx).trans cx0
    have k1 := (hV.cell (p := ⟨w.heap.size, 1, none⟩) hlx).trans cx1
    have k2 := (hV.cell (p := ⟨w.heap.size, 2, none⟩) hlx).trans cx2
    have k3 := (hV.cell (p := ⟨w.heap.size, 3, none⟩) hlx).trans cx3
    go_simp
    (try with_reducible rfl)
  simp only [Act.put, List.setIfInBounds_toArray]
  refine wpAnyH_take (i := 1) (v := ?_) rfl (by kernel_rfl) (by kernel_rfl) (by kernel_rfl) (fun _ _ _ h => h) (Or.inl ⟨by rfl, ?_⟩) hS ?_
  rotate_left
  · intro V hV
    go_simp
    (try with_reducible rfl)
  simp only [Act.put]
  refine wpAnyH_take (i := 2) (v := ?_) rfl (by kernel_rfl) (by kernel_rfl) (by kernel_rfl) (fun _ _ _ h => h) (Or.inl ⟨by rfl, ?_⟩) hS ?_
  rotate_left
  · intro V hV
    go_simp
    (try with_reducible rfl)
  simp only [Act.put]
  refine wpAnyH_ready (rs := [3]) (by kernel_rfl) (by simp) (AllReadyH.cons rfl (fun K hK => ?_) AllReadyH.nil)
  go_simp
  refine (HOF.out _).mono ?_
  rintro e U1 ⟨rfl, hbc⟩
  refine hK.out _ _ (hS.trans (hbc.mono hS.size)) (fun hS => ?_)
  clear hK K hbc
  refine wpAnyH_ready (rs := [4]) (by kernel_rfl) (by simp) (AllReadyH.cons rfl (fun K hK => ?_) AllReadyH.nil)
  go_simp
  refine (HCM.out _).mono ?_
  rintro e U2 ⟨rfl, hbc⟩
  refine hK.out _ _ (hS.trans (hbc.mono hS.size)) (fun hS => ?_)
  clear hK K hbc
  refine wpAnyH_take (i := 5) (v := ?_) rfl (by kernel_rfl) (by kernel_rfl) (by kernel_rfl) (fun _ _ _ h => h) (Or.inl ⟨by rfl, ?_⟩) hS ?_
  rotate_left
  · intro V hV
    go_simp
    (try with_reducible rfl)
  simp only [Act.put]
  refine wpAnyH_done (by kernel_rfl) ?_ _
  have k0 := (hS.cell (p := ⟨w.heap.size, 0, none⟩) hlx).trans cx0
  go_wp2
  go_ret2
  exact ⟨rfl, HB.out.trans (hS.mono HB.out.size)⟩

set_option maxHeartbeats 1000000 in
set_option maxRecDepth 100000 in
theorem within_out (N en : Nat) (he : en < 9223372036854775808) (h : en ≤ N % M256) (w : World) : Calls Try.prog 104 #[wv N, .int .i64 en] w fun e w' => e = .returned (.tuple #[.int .i64 0, .bool false]) ∧ Below w.heap.size w w' := by
  rcases Nat.lt_or_eq_of_le h with h | h
  · have hof := fun W => of_any en (by omega) W
    have hcm := fun W => cmp_any N en W
    rw [small_mod (by omega : en < 18446744073709551616)] at hcm
    rw [cmpI_gt h] at hcm
    have hwe : IntKind.u64.wrap (en : Int) = en := by rw [IntKind.wrap_u64]; omega
    obtain ⟨x0, x1, x2, x3, hX⟩ := wv_form N
    obtain ⟨e0, e1, e2, e3, hE⟩ := wv_form en
    simp only [hX, hE] at hof hcm ⊢
    have HOF := hideP hof
    have HCM := hideP hcm
    clear hof hcm hX hE he h
    go_enter Try.func104, Try.ntmps104
    go_wp2_with fail
    refine at_world (fun W0 hW0 => ?_)
    have cx0 : W0.cell? ⟨w.heap.size, 0, none⟩ = some (.int .u64 x0) := by rw [hW0]; simp
    have cx1 : W0.cell? ⟨w.heap.size, 1, none⟩ = some (.int .u64 x1) := by rw [hW0]; simp
    have cx2 : W0.cell? ⟨w.heap.size, 2, none⟩ = some (.int .u64 x2) := by rw [hW0]; simp
    have cx3 : W0.cell? ⟨w.heap.size, 3, none⟩ = some (.int .u64 x3) := by rw [hW0]; simp
    have hlx : w.heap.size < W0.heap.size := by rw [hW0]; simp
    have HB : Hid (Below w.heap.size w W0) := by
      show Below _ _ _
      rw [hW0]
      repeat first | exact Below.refl _ _ | apply Below.drew | (refine Below.alloc ?_ (by simp <;> omega) _) | (refine Below.setCell ?_ (by simp <;> omega) _)
    clear hW0
    refine wp_region_heldS (S := fun V => Below W0.heap.size W0 V) (by kernel_rfl) (Below.refl _ _).drew (fun hS => ?_)
    refine wpAnyH_take (i := 0) (v := ?_) rfl (by kernel_rfl) (by kernel_rfl) (by kernel_rfl) (fun _ _ _ h => h) (Or.inl ⟨by rfl, ?_⟩) hS ?_
    rotate_left
    · intro V hV
      have k0 := (hV.cell (p := ⟨w.heap.size, 0, none⟩) hlx).trans cx0
      have k1 := (hV.cell (p := ⟨w.heap.size, 1, none⟩) hlx).trans cx1
      have k2 := (hV.cell (p := ⟨w.heap.size, 2, none⟩) hlx).trans cx2
      have k3 := (hV.cell (p := ⟨w.heap.size, 3, none⟩) hlx).trans cx3
      go_simp
      (try with_reducible rfl)
    simp only [Act.put, List.setIfInBounds_toArray]
    refine wpAnyH_take (i := 1) (v := ?_) rfl (by kernel_rfl) (by kernel_rfl) (by kernel_rfl) (fun _ _ _ h => h) (Or.inl ⟨by rfl, ?_⟩) hS ?_
    rotate_left
    · intro V hV
      go_simp
      (try with_reducible rfl)
    simp only [Act.put]
    refine wpAnyH_take (i := 2) (v := ?_) rfl (by kernel_rfl) (by kernel_rfl) (by kernel_rfl) (fun _ _ _ h => h) (Or.inl ⟨by rfl, ?_⟩) hS ?_
    rotate_left
    · intro V hV
      go_simp
      (try with_reducible rfl)
    simp only [Act.put]
    refine wpAnyH_ready (rs := [3]) (by kernel_rfl) (by simp) (AllReadyH.cons rfl (fun K hK => ?_) AllReadyH.nil)
    go_simp
    refine (HOF.out _).mono ?_
    rintro e U1 ⟨rfl, hbc⟩
    refine hK.out _ _ (hS.trans (hbc.mono hS.size)) (fun hS => ?_)
    clear hK K hbc
    refine wpAnyH_ready (rs := [4]) (by kernel_rfl) (by simp) (AllReadyH.cons rfl (fun K hK => ?_) AllReadyH.nil)
    go_simp
    refine (HCM.out _).mono ?_
    rintro e U2 ⟨rfl, hbc⟩
    refine hK.out _ _ (hS.trans (hbc.mono hS.size)) (fun hS => ?_)
    clear hK K hbc
    refine wpAnyH_take (i := 5) (v := ?_) rfl (by kernel_rfl) (by kernel_rfl) (by kernel_rfl) (fun _ _ _ h => h) (Or.inl ⟨by rfl, ?_⟩) hS ?_
    rotate_left
    · intro V hV
      go_simp
      (try with_reducible rfl)
    simp only [Act.put]
    refine wpAnyH_done (by kernel_rfl) ?_ _
    go_wp2
    go_ret2
    exact ⟨rfl, HB.out.trans (hS.mono HB.out.size)⟩
  · have hof := fun W => of_any en (by omega) W
    have hcm := fun W => cmp_any N en W
    rw [small_mod (by omega : en < 18446744073709551616)] at hcm
    rw [← h, cmpI_eq] at hcm
    have hwe : IntKind.u64.wrap (en : Int) = en := by rw [IntKind.wrap_u64]; omega
    obtain ⟨x0, x1, x2, x3, hX⟩ := wv_form N
    obtain ⟨e0, e1, e2, e3, hE⟩ := wv_form en
    simp only [hX, hE] at hof hcm ⊢
    have HOF := hideP hof
    have HCM := hideP hcm
    clear hof hcm hX hE he h
    go_enter Try.func104, Try.ntmps104
    go_wp2_with fail
    refine at_world (fun W0 hW0 => ?_)
    have cx0 : W0.cell? ⟨w.heap.size, 0, none⟩ = some (.int .u64 x0) := by rw [hW0]; simp
    have cx1 : W0.cell? ⟨w.heap.size, 1, none⟩ = some (.int .u64 x1) := by rw [hW0]; simp
    have cx2 : W0.cell? ⟨w.heap.size, 2, none⟩ = some (.int .u64 x2) := by rw [hW0]; simp
    have cx3 : W0.cell? ⟨w.heap.size, 3, none⟩ = some (.int .u64 x3) := by rw [hW0]; simp
    have hlx : w.heap.size < W0.heap.size := by rw [hW0]; simp
    have HB : Hid (Below w.heap.size w W0) := by
      show Below _ _ _
      rw [hW0]
      repeat first | exact Below.refl _ _ | apply Below.drew | (refine Below.alloc ?_ (by simp <;> omega) _) | (refine Below.setCell ?_ (by simp <;> omega) _)
    clear hW0
    refine wp_region_heldS (S := fun V => Below W0.heap.size W0 V) (by kernel_rfl) (Below.refl _ _).drew (fun hS => ?_)
    refine wpAnyH_take (i := 0) (v := ?_) rfl (by kernel_rfl) (by kernel_rfl) (by kernel_rfl) (fun _ _ _ h => h) (Or.inl ⟨by rfl, ?_⟩) hS ?_
    rotate_left
    · intro V hV
      have k0 := (hV.cell (p := ⟨w.heap.size, 0, none⟩) hlx).trans cx0
      have k1 := (hV.cell (p := ⟨w.heap.size, 1, none⟩) hlx).trans cx1
      have k2 := (hV.cell (p := ⟨w.heap.size, 2, none⟩) hlx).trans cx2
      have k3 := (hV.cell (p := ⟨w.heap.size, 3, none⟩) hlx).trans cx3
      go_simp
      (try with_reducible rfl)
    simp only [Act.put, List.setIfInBounds_toArray]
    refine wpAnyH_take (i := 1) (v := ?_) rfl (by kernel_rfl) (by kernel_rfl) (by kernel_rfl) (fun _ _ _ h => h) (Or.inl ⟨by rfl, ?_⟩) hS ?_
    rotate_left
    · intro V hV
      go_simp
      (try with_reducible rfl)
    simp only [Act.put]
    refine wpAnyH_take (i := 2) (v := ?_) rfl (by kernel_rfl) (by kernel_rfl) (by kernel_rfl) (fun _ _ _ h => h) (Or.inl ⟨by rfl, ?_⟩) hS ?_
    rotate_left
    · intro V hV
      go_simp
      (try with_reducible rfl)
    simp only [Act.put]
    refine wpAnyH_ready (rs := [3]) (by kernel_rfl) (by simp) (AllReadyH.cons rfl (fun K hK => ?_) AllReadyH.nil)
    go_simp
    refine (HOF.out _).mono ?_
    rintro e U1 ⟨rfl, hbc⟩
    refine hK.out _ _ (hS.trans (hbc.mono hS.size)) (fun hS => ?_)
    clear hK K hbc
    refine wpAnyH_ready (rs := [4]) (by kernel_rfl) (by simp) (AllReadyH.cons rfl (fun K hK => ?_) AllReadyH.nil)
    go_simp
    refine (HCM.out _).mono ?_
    rintro e U2 ⟨rfl, hbc⟩
    refine hK.out _ _ (hS.trans (hbc.mono hS.size)) (fun hS => ?_)
    clear hK K hbc
    refine wpAnyH_take (i := 5) (v := ?_) rfl (by kernel_rfl) (by kernel_rfl) (by kernel_rfl) (fun _ _ _ h => h) (Or.inl ⟨by rfl, ?_⟩) hS ?_
    rotate_left
    · intro V hV
      go_simp
      (try with_reducible rfl)
    simp only [Act.put]
    refine wpAnyH_done (by kernel_rfl) ?_ _
    go_wp2
    go_ret2
    exact ⟨rfl, HB.out.trans (hS.mono HB.out.size)⟩

end Go.Proofs.Ytpnijncoldihfaa
