/-
  Words that are held against one another.
-/
import Derived.Test.YtpnijncoldihfaaTextsC06
namespace Go.Proofs.Ytpnijncoldihfaa
open Go.RowKit Go.Shelf

/-- -1, 0 or 1. -/
def cmpI (a b : Nat) : Int := if a < b then -1 else if b < a then 1 else 0

theorem cmpI_lt {a b : Nat} (h : a < b) : cmpI a b = -1 := by unfold cmpI; rw [if_pos h]

theorem cmpI_gt {a b : Nat} (h : b < a) : cmpI a b = 1 := by unfold cmpI; rw [if_neg (by omega), if_pos h]

theorem cmpI_eq (a : Nat) : cmpI a a = 0 := by unfold cmpI; simp

set_option maxHeartbeats 400000 in
theorem compare_any (x y : Nat) (w : World) : Calls Try.prog 108 #[.int .u64 x, .int .u64 y] w fun e w' => e = .returned (.int .i64 (cmpI x y)) ∧ w = w' := by
  have hn : ∀ (z : Nat) (w : World), Calls Try.prog 123 #[.int .u64 z] w fun e w' => e = .returned (.bool false) ∧ w = w' := by
    intro z w
    go_enter Try.func123, Try.ntmps123
    go_wp2
    go_ret
    exact ⟨by simp, rfl⟩
  have HN := hideP hn
  clear hn
  rcases Nat.lt_trichotomy x y with h | h | h
  · rw [cmpI_lt h]
    have h1 : (x : Int) < y := by omega
    go_enter Try.func108, Try.ntmps108
    go_wp2_with fail
    refine (HN.out _ _).mono ?_
    rintro e w1 ⟨rfl, rfl⟩
    go_wp2_with fail
    refine (HN.out _ _).mono ?_
    rintro e w1 ⟨rfl, rfl⟩
    go_wp2
    go_ret
    exact ⟨rfl, rfl⟩
  · subst h
    rw [cmpI_eq]
    go_enter Try.func108, Try.ntmps108
    go_wp2_with fail
    refine (HN.out _ _).mono ?_
    rintro e w1 ⟨rfl, rfl⟩
    go_wp2_with fail
    refine (HN.out _ _).mono ?_
    rintro e w1 ⟨rfl, rfl⟩
    go_wp2
    go_ret
    exact ⟨rfl, rfl⟩
  · rw [cmpI_gt h]
    have h1 : ¬ (x : Int) < y := by omega
    have h2 : (y : Int) < x := by omega
    go_enter Try.func108, Try.ntmps108
    go_wp2_with fail
    refine (HN.out _ _).mono ?_
    rintro e w1 ⟨rfl, rfl⟩
    go_wp2_with fail
    refine (HN.out _ _).mono ?_
    rintro e w1 ⟨rfl, rfl⟩
    go_wp2
    go_ret
    exact ⟨rfl, rfl⟩

theorem at_world {P : Program} {c : Code} {Q : Exit → Act → World → Prop} {a : Act} {w : World} (h : ∀ W0, W0 = w → c.wp P Q a W0) : c.wp P Q a w := h w rfl

theorem cmp_num3 {x0 x1 x2 x3 y0 y1 y2 y3 : Nat} (hx0 : x0 < 18446744073709551616) (hx1 : x1 < 18446744073709551616) (hx2 : x2 < 18446744073709551616) (hy0 : y0 < 18446744073709551616) (hy1 : y1 < 18446744073709551616) (hy2 : y2 < 18446744073709551616) (h : x3 ≠ y3) :
    cmpI (num x0 x1 x2 x3) (num y0 y1 y2 y3) = cmpI x3 y3 := by
  unfold cmpI num
  rcases Nat.lt_or_gt_of_ne h with h | h
  · rw [if_pos (by omega), if_pos h]
  · rw [if_neg (by omega), if_pos (by omega), if_neg (by omega), if_pos h]

theorem cmp_num2 {x0 x1 x2 x3 y0 y1 y2 : Nat} (hx0 : x0 < 18446744073709551616) (hx1 : x1 < 18446744073709551616) (hy0 : y0 < 18446744073709551616) (hy1 : y1 < 18446744073709551616) (h : x2 ≠ y2) :
    cmpI (num x0 x1 x2 x3) (num y0 y1 y2 x3) = cmpI x2 y2 := by
  unfold cmpI num
  rcases Nat.lt_or_gt_of_ne h with h | h
  · rw [if_pos (by omega), if_pos h]
  · rw [if_neg (by omega), if_pos (by omega), if_neg (by omega), if_pos h]

theorem cmp_num1 {x0 x1 x2 x3 y0 y1 : Nat} (hx0 : x0 < 18446744073709551616) (hy0 : y0 < 18446744073709551616) (h : x1 ≠ y1) :
    cmpI (num x0 x1 x2 x3) (num y0 y1 x2 x3) = cmpI x1 y1 := by
  unfold cmpI num
  rcases Nat.lt_or_gt_of_ne h with h | h
  · rw [if_pos (by omega), if_pos h]
  · rw [if_neg (by omega), if_pos (by omega), if_neg (by omega), if_pos h]

theorem cmp_num0 {x0 x1 x2 x3 y0 : Nat} : cmpI (num x0 x1 x2 x3) (num y0 x1 x2 x3) = cmpI x0 y0 := by
  unfold cmpI num
  rcases Nat.lt_trichotomy x0 y0 with h | h | h
  · rw [if_pos (by omega), if_pos h]
  · rw [if_neg (by omega), if_neg (by omega), if_neg (by omega), if_neg (by omega)]
  · rw [if_neg (by omega), if_pos (by omega), if_neg (by omega), if_pos h]

set_option maxHeartbeats 2000000 in
set_option maxRecDepth 100000 in
theorem cmp_any (X Y : Nat) (w : World) : Calls Try.prog 49 #[wv X, wv Y] w fun e w' => e = .returned (.int .i64 (cmpI (X % M256) (Y % M256))) ∧ Below w.heap.size w w' := by
  obtain ⟨x0, x1, x2, x3, hx0, hx1, hx2, hx3, eX, hX⟩ := wv_limbs X
  obtain ⟨y0, y1, y2, y3, hy0, hy1, hy2, hy3, eY, hY⟩ := wv_limbs Y
  rw [hX, hY, eX, eY]
  clear hX hY eX eY
  have hw3 : IntKind.i64.wrap 3 = 3 := rfl
  have HC : Hid (∀ (x y : Nat) (w : World), Calls Try.prog 108 #[.int .u64 x, .int .u64 y] w fun e w' => e = .returned (.int .i64 (cmpI x y)) ∧ w = w') := compare_any
  by_cases d3 : x3 = y3
  · subst d3
    by_cases d2 : x2 = y2
    · subst d2
      by_cases d1 : x1 = y1
      · subst d1
        rw [cmp_num0]
        by_cases d0 : x0 = y0
        · subst d0
          rw [cmpI_eq]
          clear hx0 hx1 hx2 hx3 hy0 hy1 hy2 hy3 HC
          go_enter Try.func49, Try.ntmps49
          go_wp2_with fail
          refine wp_loop_rounds 5 ?_
          rw [rounds_succ]
          go_wp2_with fail
          go_region
          go_wp2_with fail
          rw [rounds_succ]
          go_wp2_with fail
          go_region
          go_wp2_with fail
          rw [rounds_succ]
          go_wp2_with fail
          go_region
          go_wp2_with fail
          rw [rounds_succ]
          go_wp2_with fail
          go_region
          go_wp2_with fail
          rw [rounds_succ]
          go_wp2
          go_ret
          refine ⟨rfl, ?_⟩
          repeat first | exact Below.refl _ _ | apply Below.drew | (refine Below.alloc ?_ (by simp <;> omega) _) | (refine Below.setCell ?_ (by simp <;> omega) _)
        · have hd : ((x0 : Int) == y0) = false := beq_eq_false_iff_ne.2 (by omega)
          clear hx0 hx1 hx2 hx3 hy0 hy1 hy2 hy3 d0
          go_enter Try.func49, Try.ntmps49
          go_wp2_with fail
          refine wp_loop_rounds 5 ?_
          rw [rounds_succ]
          go_wp2_with fail
          go_region
          go_wp2_with fail
          rw [rounds_succ]
          go_wp2_with fail
          go_region
          go_wp2_with fail
          rw [rounds_succ]
          go_wp2_with fail
          go_region
          go_wp2_with fail
          rw [rounds_succ]
          go_wp2_with fail
          go_region
          go_wp2_with fail
          refine at_world (fun W0 hW0 => ?_)
          have cx : W0.cell? ⟨w.heap.size, 0, none⟩ = some (.int .u64 x0) := by rw [hW0]; simp
          have cy : W0.cell? ⟨w.heap.size + 1, 0, none⟩ = some (.int .u64 y0) := by rw [hW0]; simp
          have hlx : w.heap.size < W0.heap.size := by rw [hW0]; simp <;> omega
          have hly : w.heap.size + 1 < W0.heap.size := by rw [hW0]; simp <;> omega
          have HB : Hid (Below w.heap.size w W0) := by
            show Below _ _ _
            rw [hW0]
            repeat first | exact Below.refl _ _ | apply Below.drew | (refine Below.alloc ?_ (by simp <;> omega) _) | (refine Below.setCell ?_ (by simp <;> omega) _)
          clear hW0
          refine wp_region_heldS (S := fun V => Below W0.heap.size W0 V) (by kernel_rfl) (Below.refl _ _).drew (fun hS => ?_)
          refine wpAnyH_take (i := 0) (v := ?_) rfl (by kernel_rfl) (by kernel_rfl) (by kernel_rfl) (fun _ _ _ h => h) (Or.inl ⟨by rfl, ?_⟩) hS ?_
          rotate_left
          · intro V hV
            go_simp
            (try with_reducible rfl)
          simp only [Act.put, List.setIfInBounds_toArray]
          refine wpAnyH_take (i := 1) (v := ?_) rfl (by kernel_rfl) (by kernel_rfl) (by kernel_rfl) (fun _ _ _ h => h) (Or.inl ⟨by rfl, ?_⟩) hS ?_
          rotate_left
          · intro V hV
            go_simp
            (try with_reducible rfl)
          simp only [Act.put]
          refine wpAnyH_take (i := 2) (v := ?_) rfl (by kernel_rfl) (by kernel_rfl) (by kernel_rfl) (fun _ _ _ h => h) (Or.inl ⟨by rfl, ?_⟩) hS ?_
          rotate_left
          · intro V hV
            have k0 := (hV.cell (p := ⟨w.heap.size, 0, none⟩) hlx).trans cx
            go_simp
            (try with_reducible rfl)
          simp only [Act.put]
          refine wpAnyH_take (i := 3) (v := ?_) rfl (by kernel_rfl) (by kernel_rfl) (by kernel_rfl) (fun _ _ _ h => h) (Or.inl ⟨by rfl, ?_⟩) hS ?_
          rotate_left
          · intro V hV
            go_simp
            (try with_reducible rfl)
          simp only [Act.put]
          refine wpAnyH_take (i := 4) (v := ?_) rfl (by kernel_rfl) (by kernel_rfl) (by kernel_rfl) (fun _ _ _ h => h) (Or.inl ⟨by rfl, ?_⟩) hS ?_
          rotate_left
          · intro V hV
            go_simp
            (try with_reducible rfl)
          simp only [Act.put]
          refine wpAnyH_take (i := 5) (v := ?_) rfl (by kernel_rfl) (by kernel_rfl) (by kernel_rfl) (fun _ _ _ h => h) (Or.inl ⟨by rfl, ?_⟩) hS ?_
          rotate_left
          · intro V hV
            have k0 := (hV.cell (p := ⟨w.heap.size + 1, 0, none⟩) hly).trans cy
            go_simp
            (try with_reducible rfl)
          simp only [Act.put]
          refine wpAnyH_ready (rs := [6]) (by kernel_rfl) (by simp) (AllReadyH.cons rfl (fun K hK => ?_) AllReadyH.nil)
          go_simp
          refine (HC.out _ _ _).mono ?_
          rintro e U1 ⟨rfl, rfl⟩
          have hbc := Below.refl W0.drew.heap.size W0.drew
          refine hK.out _ _ (hS.trans (hbc.mono hS.size)) (fun hS => ?_)
          clear hK K hbc
          refine wpAnyH_ready (rs := [7]) (by kernel_rfl) (by simp) (AllReadyH.cons rfl (fun K hK => ?_) AllReadyH.nil)
          go_simp
          refine hK.out _ _ hS (fun hS => ?_)
          clear hK K
          refine wpAnyH_done (by kernel_rfl) ?_ _
          go_wp2_with fail
          go_ret
          exact ⟨rfl, HB.out.trans (hS.mono HB.out.size)⟩
      · rw [cmp_num1 hx0 hy0 d1]
        have hd : ((x1 : Int) == y1) = false := beq_eq_false_iff_ne.2 (by omega)
        clear hx0 hx1 hx2 hx3 hy0 hy1 hy2 hy3 d1
        go_enter Try.func49, Try.ntmps49
        go_wp2_with fail
        refine wp_loop_rounds 5 ?_
        rw [rounds_succ]
        go_wp2_with fail
        go_region
        go_wp2_with fail
        rw [rounds_succ]
        go_wp2_with fail
        go_region
        go_wp2_with fail
        rw [rounds_succ]
        go_wp2_with fail
        go_region
        go_wp2_with fail
        refine at_world (fun W0 hW0 => ?_)
        have cx : W0.cell? ⟨w.heap.size, 1, none⟩ = some (.int .u64 x1) := by rw [hW0]; simp
        have cy : W0.cell? ⟨w.heap.size + 1, 1, none⟩ = some (.int .u64 y1) := by rw [hW0]; simp
        have hlx : w.heap.size < W0.heap.size := by rw [hW0]; simp <;> omega
        have hly : w.heap.size + 1 < W0.heap.size := by rw [hW0]; simp <;> omega
        have HB : Hid (Below w.heap.size w W0) := by
          show Below _ _ _
          rw [hW0]
          repeat first | exact Below.refl _ _ | apply Below.drew | (refine Below.alloc ?_ (by simp <;> omega) _) | (refine Below.setCell ?_ (by simp <;> omega) _)
        clear hW0
        refine wp_region_heldS (S := fun V => Below W0.heap.size W0 V) (by kernel_rfl) (Below.refl _ _).drew (fun hS => ?_)
        refine wpAnyH_take (i := 0) (v := ?_) rfl (by kernel_rfl) (by kernel_rfl) (by kernel_rfl) (fun _ _ _ h => h) (Or.inl ⟨by rfl, ?_⟩) hS ?_
        rotate_left
        · intro V hV
          go_simp
          (try with_reducible rfl)
        simp only [Act.put, List.setIfInBounds_toArray]
        refine wpAnyH_take (i := 1) (v := ?_) rfl (by kernel_rfl) (by kernel_rfl) (by kernel_rfl) (fun _ _ _ h => h) (Or.inl ⟨by rfl, ?_⟩) hS ?_
        rotate_left
        · intro V hV
          go_simp
          (try with_reducible rfl)
        simp only [Act.put]
        refine wpAnyH_take (i := 2) (v := ?_) rfl (by kernel_rfl) (by kernel_rfl) (by kernel_rfl) (fun _ _ _ h => h) (Or.inl ⟨by rfl, ?_⟩) hS ?_
        rotate_left
        · intro V hV
          have k0 := (hV.cell (p := ⟨w.heap.size, 1, none⟩) hlx).trans cx
          go_simp
          (try with_reducible rfl)
        simp only [Act.put]
        refine wpAnyH_take (i := 3) (v := ?_) rfl (by kernel_rfl) (by kernel_rfl) (by kernel_rfl) (fun _ _ _ h => h) (Or.inl ⟨by rfl, ?_⟩) hS ?_
        rotate_left
        · intro V hV
          go_simp
          (try with_reducible rfl)
        simp only [Act.put]
        refine wpAnyH_take (i := 4) (v := ?_) rfl (by kernel_rfl) (by kernel_rfl) (by kernel_rfl) (fun _ _ _ h => h) (Or.inl ⟨by rfl, ?_⟩) hS ?_
        rotate_left
        · intro V hV
          go_simp
          (try with_reducible rfl)
        simp only [Act.put]
        refine wpAnyH_take (i := 5) (v := ?_) rfl (by kernel_rfl) (by kernel_rfl) (by kernel_rfl) (fun _ _ _ h => h) (Or.inl ⟨by rfl, ?_⟩) hS ?_
        rotate_left
        · intro V hV
          have k0 := (hV.cell (p := ⟨w.heap.size + 1, 1, none⟩) hly).trans cy
          go_simp
          (try with_reducible rfl)
        simp only [Act.put]
        refine wpAnyH_ready (rs := [6]) (by kernel_rfl) (by simp) (AllReadyH.cons rfl (fun K hK => ?_) AllReadyH.nil)
        go_simp
        refine (HC.out _ _ _).mono ?_
        rintro e U1 ⟨rfl, rfl⟩
        have hbc := Below.refl W0.drew.heap.size W0.drew
        refine hK.out _ _ (hS.trans (hbc.mono hS.size)) (fun hS => ?_)
        clear hK K hbc
        refine wpAnyH_ready (rs := [7]) (by kernel_rfl) (by simp) (AllReadyH.cons rfl (fun K hK => ?_) AllReadyH.nil)
        go_simp
        refine hK.out _ _ hS (fun hS => ?_)
        clear hK K
        refine wpAnyH_done (by kernel_rfl) ?_ _
        go_wp2_with fail
        go_ret
        exact ⟨rfl, HB.out.trans (hS.mono HB.out.size)⟩
    · rw [cmp_num2 hx0 hx1 hy0 hy1 d2]
      have hd : ((x2 : Int) == y2) = false := beq_eq_false_iff_ne.2 (by omega)
      clear hx0 hx1 hx2 hx3 hy0 hy1 hy2 hy3 d2
      go_enter Try.func49, Try.ntmps49
      go_wp2_with fail
      refine wp_loop_rounds 5 ?_
      rw [rounds_succ]
      go_wp2_with fail
      go_region
      go_wp2_with fail
      rw [rounds_succ]
      go_wp2_with fail
      go_region
      go_wp2_with fail
      refine at_world (fun W0 hW0 => ?_)
      have cx : W0.cell? ⟨w.heap.size, 2, none⟩ = some (.int .u64 x2) := by rw [hW0]; simp
      have cy : W0.cell? ⟨w.heap.size + 1, 2, none⟩ = some (.int .u64 y2) := by rw [hW0]; simp
      have hlx : w.heap.size < W0.heap.size := by rw [hW0]; simp <;> omega
      have hly : w.heap.size + 1 < W0.heap.size := by rw [hW0]; simp <;> omega
      have HB : Hid (Below w.heap.size w W0) := by
        show Below _ _ _
        rw [hW0]
        repeat first | exact Below.refl _ _ | apply Below.drew | (refine Below.alloc ?_ (by simp <;> omega) _) | (refine Below.setCell ?_ (by simp <;> omega) _)
      clear hW0
      refine wp_region_heldS (S := fun V => Below W0.heap.size W0 V) (by kernel_rfl) (Below.refl _ _).drew (fun hS => ?_)
      refine wpAnyH_take (i := 0) (v := ?_) rfl (by kernel_rfl) (by kernel_rfl) (by kernel_rfl) (fun _ _ _ h => h) (Or.inl ⟨by rfl, ?_⟩) hS ?_
      rotate_left
      · intro V hV
        go_simp
        (try with_reducible rfl)
      simp only [Act.put, List.setIfInBounds_toArray]
      refine wpAnyH_take (i := 1) (v := ?_) rfl (by kernel_rfl) (by kernel_rfl) (by kernel_rfl) (fun _ _ _ h => h) (Or.inl ⟨by rfl, ?_⟩) hS ?_
      rotate_left
      · intro V hV
        go_simp
        (try with_reducible rfl)
      simp only [Act.put]
      refine wpAnyH_take (i := 2) (v := ?_) rfl (by kernel_rfl) (by kernel_rfl) (by kernel_rfl) (fun _ _ _ h => h) (Or.inl ⟨by rfl, ?_⟩) hS ?_
      rotate_left
      · intro V hV
        have k0 := (hV.cell (p := ⟨w.heap.size, 2, none⟩) hlx).trans cx
        go_simp
        (try with_reducible rfl)
      simp only [Act.put]
      refine wpAnyH_take (i := 3) (v := ?_) rfl (by kernel_rfl) (by kernel_rfl) (by kernel_rfl) (fun _ _ _ h => h) (Or.inl ⟨by rfl, ?_⟩) hS ?_
      rotate_left
      · intro V hV
        go_simp
        (try with_reducible rfl)
      simp only [Act.put]
      refine wpAnyH_take (i := 4) (v := ?_) rfl (by kernel_rfl) (by kernel_rfl) (by kernel_rfl) (fun _ _ _ h => h) (Or.inl ⟨by rfl, ?_⟩) hS ?_
      rotate_left
      · intro V hV
        go_simp
        (try with_reducible rfl)
      simp only [Act.put]
      refine wpAnyH_take (i := 5) (v := ?_) rfl (by kernel_rfl) (by kernel_rfl) (by kernel_rfl) (fun _ _ _ h => h) (Or.inl ⟨by rfl, ?_⟩) hS ?_
      rotate_left
      · intro V hV
        have k0 := (hV.cell (p := ⟨w.heap.size + 1, 2, none⟩) hly).trans cy
        go_simp
        (try with_reducible rfl)
      simp only [Act.put]
      refine wpAnyH_ready (rs := [6]) (by kernel_rfl) (by simp) (AllReadyH.cons rfl (fun K hK => ?_) AllReadyH.nil)
      go_simp
      refine (HC.out _ _ _).mono ?_
      rintro e U1 ⟨rfl, rfl⟩
      have hbc := Below.refl W0.drew.heap.size W0.drew
      refine hK.out _ _ (hS.trans (hbc.mono hS.size)) (fun hS => ?_)
      clear hK K hbc
      refine wpAnyH_ready (rs := [7]) (by kernel_rfl) (by simp) (AllReadyH.cons rfl (fun K hK => ?_) AllReadyH.nil)
      go_simp
      refine hK.out _ _ hS (fun hS => ?_)
      clear hK K
      refine wpAnyH_done (by kernel_rfl) ?_ _
      go_wp2_with fail
      go_ret
      exact ⟨rfl, HB.out.trans (hS.mono HB.out.size)⟩
  · rw [cmp_num3 hx0 hx1 hx2 hy0 hy1 hy2 d3]
    have hd : ((x3 : Int) == y3) = false := beq_eq_false_iff_ne.2 (by omega)
    clear hx0 hx1 hx2 hx3 hy0 hy1 hy2 hy3 d3
    go_enter Try.func49, Try.ntmps49
    go_wp2_with fail
    refine wp_loop_rounds 5 ?_
    rw [rounds_succ]
    go_wp2_with fail
    go_region
    go_wp2_with fail
    refine at_world (fun W0 hW0 => ?_)
    have cx : W0.cell? ⟨w.heap.size, 3, none⟩ = some (.int .u64 x3) := by rw [hW0]; simp
    have cy : W0.cell? ⟨w.heap.size + 1, 3, none⟩ = some (.int .u64 y3) := by rw [hW0]; simp
    have hlx : w.heap.size < W0.heap.size := by rw [hW0]; simp <;> omega
    have hly : w.heap.size + 1 < W0.heap.size := by rw [hW0]; simp <;> omega
    have HB : Hid (Below w.heap.size w W0) := by
      show Below _ _ _
      rw [hW0]
      repeat first | exact Below.refl _ _ | apply Below.drew | (refine Below.alloc ?_ (by simp <;> omega) _) | (refine Below.setCell ?_ (by simp <;> omega) _)
    clear hW0
    refine wp_region_heldS (S := fun V => Below W0.heap.size W0 V) (by kernel_rfl) (Below.refl _ _).drew (fun hS => ?_)
    refine wpAnyH_take (i := 0) (v := ?_) rfl (by kernel_rfl) (by kernel_rfl) (by kernel_rfl) (fun _ _ _ h => h) (Or.inl ⟨by rfl, ?_⟩) hS ?_
    rotate_left
    · intro V hV
      go_simp
      (try with_reducible rfl)
    simp only [Act.put, List.setIfInBounds_toArray]
    refine wpAnyH_take (i := 1) (v := ?_) rfl (by kernel_rfl) (by kernel_rfl) (by kernel_rfl) (fun _ _ _ h => h) (Or.inl ⟨by rfl, ?_⟩) hS ?_
    rotate_left
    · intro V hV
      go_simp
      (try with_reducible rfl)
    simp only [Act.put]
    refine wpAnyH_take (i := 2) (v := ?_) rfl (by kernel_rfl) (by kernel_rfl) (by kernel_rfl) (fun _ _ _ h => h) (Or.inl ⟨by rfl, ?_⟩) hS ?_
    rotate_left
    · intro V hV
      have k0 := (hV.cell (p := ⟨w.heap.size, 3, none⟩) hlx).trans cx
      go_simp
      (try with_reducible rfl)
    simp only [Act.put]
    refine wpAnyH_take (i := 3) (v := ?_) rfl (by kernel_rfl) (by kernel_rfl) (by kernel_rfl) (fun _ _ _ h => h) (Or.inl ⟨by rfl, ?_⟩) hS ?_
    rotate_left
    · intro V hV
      go_simp
      (try with_reducible rfl)
    simp only [Act.put]
    refine wpAnyH_take (i := 4) (v := ?_) rfl (by kernel_rfl) (by kernel_rfl) (by kernel_rfl) (fun _ _ _ h => h) (Or.inl ⟨by rfl, ?_⟩) hS ?_
    rotate_left
    · intro V hV
      go_simp
      (try with_reducible rfl)
    simp only [Act.put]
    refine wpAnyH_take (i := 5) (v := ?_) rfl (by kernel_rfl) (by kernel_rfl) (by kernel_rfl) (fun _ _ _ h => h) (Or.inl ⟨by rfl, ?_⟩) hS ?_
    rotate_left
    · intro V hV
      have k0 := (hV.cell (p := ⟨w.heap.size + 1, 3, none⟩) hly).trans cy
      go_simp
      (try with_reducible rfl)
    simp only [Act.put]
    refine wpAnyH_ready (rs := [6]) (by kernel_rfl) (by simp) (AllReadyH.cons rfl (fun K hK => ?_) AllReadyH.nil)
    go_simp
    refine (HC.out _ _ _).mono ?_
    rintro e U1 ⟨rfl, rfl⟩
    have hbc := Below.refl W0.drew.heap.size W0.drew
    refine hK.out _ _ (hS.trans (hbc.mono hS.size)) (fun hS => ?_)
    clear hK K hbc
    refine wpAnyH_ready (rs := [7]) (by kernel_rfl) (by simp) (AllReadyH.cons rfl (fun K hK => ?_) AllReadyH.nil)
    go_simp
    refine hK.out _ _ hS (fun hS => ?_)
    clear hK K
    refine wpAnyH_done (by kernel_rfl) ?_ _
    go_wp2_with fail
    go_ret
    exact ⟨rfl, HB.out.trans (hS.mono HB.out.size)⟩

end Go.Proofs.Ytpnijncoldihfaa
