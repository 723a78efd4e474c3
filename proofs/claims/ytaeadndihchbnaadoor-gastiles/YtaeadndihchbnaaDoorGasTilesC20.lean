/-
  What writing a slot costs, and gives back.
-/
import Derived.Test.YtaeadndihchbnaaDoorGasTilesC19
namespace Go.Proofs.YtaeadndihchbnaaDoor
open Go.RowKit Go.Shelf

/-- Are two words the same? In the walk's own form. -/
theorem eq_run (X Y : Nat) {b : Bool} (h : decide (X % M256 = Y % M256) = b) {x0 x1 x2 x3 y0 y1 y2 y3 : Int} (hX : wv X = .agg #[.int .u64 x0, .int .u64 x1, .int .u64 x2, .int .u64 x3]) (hY : wv Y = .agg #[.int .u64 y0, .int .u64 y1, .int .u64 y2, .int .u64 y3]) (W : World) :
    (Op.equalIn 10000 30 (.agg #[.int .u64 x0, .int .u64 x1, .int .u64 x2, .int .u64 x3]) (.agg #[.int .u64 y0, .int .u64 y1, .int .u64 y2, .int .u64 y3])).run Tryd.prog W = .ok b W := by
  rw [← hX, ← hY, eq_wv, h]

theorem eq_zero (X : Nat) {b : Bool} (h : decide (X % M256 = 0) = b) {x0 x1 x2 x3 : Int} (hX : wv X = .agg #[.int .u64 x0, .int .u64 x1, .int .u64 x2, .int .u64 x3]) (W : World) :
    (Op.equalIn 10000 30 (.agg #[.int .u64 x0, .int .u64 x1, .int .u64 x2, .int .u64 x3]) (.agg #[.int .u64 0, .int .u64 0, .int .u64 0, .int .u64 0])).run Tryd.prog W = .ok b W :=
  eq_run X 0 (by rw [show (0 : Nat) % M256 = 0 from Nat.zero_mod _]; exact h) hX rfl W

theorem ofZero (W : World) : Calls Tryd.prog 61 #[.int .u64 0] W fun e w' => e = .returned (.agg #[.int .u64 0, .int .u64 0, .int .u64 0, .int .u64 0]) ∧ Below W.heap.size W w' := of_any 0 (by decide) W

set_option maxHeartbeats 2000000 in
set_option maxRecDepth 100000 in
theorem isNought_any (X : Nat) (w : World) : Calls Tryd.prog 87 #[wv X] w fun e w' => e = .returned (.bool (decide (X % M256 = 0))) ∧ Below w.heap.size w w' := by
  obtain ⟨x0, x1, x2, x3, hX⟩ := wv_form X
  have heq := fun W => eq_zero X rfl hX W
  rw [hX]
  generalize decide (X % M256 = 0) = z at *
  clear hX
  go_enter Tryd.func87, Tryd.ntmps87
  go_wp2_with fail
  refine at_world_t (fun W0 hW0 => ?_)
  obtain ⟨HBx, HBW⟩ := box1 hW0
  clear hW0
  replace HBW := hideP HBW
  replace HBx := hideP HBx
  obtain ⟨cx0, cx1, cx2, cx3⟩ := cells4 HBx.out
  have hlx := lt_of_block HBx.out
  refine wp_region_heldS (S := fun V => Below W0.heap.size W0 V) (by kernel_rfl) (Below.refl _ _).drew (fun hS => ?_)
  refine wpAnyH_takeL (i := 0) (v := ?_) rfl (by kernel_rfl) (by kernel_rfl) (by kernel_rfl) (fun _ _ _ h => h) (Or.inl ⟨by kernel_rfl, ?_⟩) hS ?_
  rotate_left
  · intro V hV
    have k0 := (hV.cell (p := ⟨w.heap.size, 0, none⟩) hlx).trans cx0
    have k1 := (hV.cell (p := ⟨w.heap.size, 1, none⟩) hlx).trans cx1
    have k2 := (hV.cell (p := ⟨w.heap.size, 2, none⟩) hlx).trans cx2
    have k3 := (hV.cell (p := ⟨w.heap.size, 3, none⟩) hlx).trans cx3
    go_simp
    (try with_reducible rfl)
  simp only [put_list, List.set_cons_succ, List.set_cons_zero]
  refine wpAnyH_ready (rs := [1]) (by kernel_rfl) (by simp) (AllReadyH.cons rfl (fun K hK => ?_) AllReadyH.nil)
  go_simp
  refine (ofZero _).mono ?_
  rintro e U1 ⟨rfl, hbc⟩
  refine hK.out _ _ (hS.trans (hbc.mono hS.size)) (fun hS => ?_)
  clear hK K hbc
  refine wpAnyH_takeL (i := 2) (v := ?_) rfl (by kernel_rfl) (by kernel_rfl) (by kernel_rfl) (fun _ _ _ h => h) (Or.inl ⟨by kernel_rfl, ?_⟩) hS ?_
  rotate_left
  · intro V hV
    go_simp
    (try with_reducible rfl)
  simp only [put_list, List.set_cons_succ, List.set_cons_zero]
  refine wpAnyH_ready (rs := [3]) (by kernel_rfl) (by simp) (AllReadyH.cons rfl (fun K hK => ?_) AllReadyH.nil)
  go_simp
  refine hK.out _ _ hS (fun hS => ?_)
  clear hK K
  refine wpAnyH_done (by kernel_rfl) ?_ _
  replace HBW := hideP (HBW.out.trans (hS.mono HBW.out.size))
  replace HBx := hideP ((hS.block _ (lt_of_block HBx.out)).trans HBx.out)
  clear hS
  clear cx0 cx1 cx2 cx3 hlx
  go_wp2_with fail
  go_ret
  exact ⟨rfl, HBW.out⟩

set_option maxHeartbeats 2000000 in
set_option maxRecDepth 100000 in
theorem undone_any (X : Nat) (w : World) : Calls Tryd.prog 88 #[wv X] w fun e w' => e = .returned (.int .i64 (if X % M256 = 0 then 19900 else 2800)) ∧ Below w.heap.size w w' := by
  obtain ⟨x0, x1, x2, x3, hX⟩ := wv_form X
  have hc := fun W => isNought_any X W
  by_cases h : X % M256 = 0
  · rw [show decide (X % M256 = 0) = true from by simp [h]] at hc
    rw [if_pos h, hX]
    rw [hX] at hc
    have HC := hideP hc
    clear hc h hX
    go_enter Tryd.func88, Tryd.ntmps88
    go_wp2_with fail
    refine at_world_q (fun W0 hW0 => ?_)
    obtain ⟨HBx, HBW⟩ := box1 hW0
    clear hW0
    replace HBW := hideP HBW
    replace HBx := hideP HBx
    refine (HC.out _).mono ?_
    rintro e V1 ⟨rfl, hb⟩
    replace HBx := hideP ((hb.block _ (lt_of_block HBx.out)).trans HBx.out)
    replace HBW := hideP (HBW.out.trans (hb.mono HBW.out.size))
    clear hb
    go_wp2_with fail
    go_ret
    exact ⟨rfl, HBW.out⟩
  · rw [show decide (X % M256 = 0) = false from by simp [h]] at hc
    rw [if_neg h, hX]
    rw [hX] at hc
    have HC := hideP hc
    clear hc h hX
    go_enter Tryd.func88, Tryd.ntmps88
    go_wp2_with fail
    refine at_world_q (fun W0 hW0 => ?_)
    obtain ⟨HBx, HBW⟩ := box1 hW0
    clear hW0
    replace HBW := hideP HBW
    replace HBx := hideP HBx
    refine (HC.out _).mono ?_
    rintro e V1 ⟨rfl, hb⟩
    replace HBx := hideP ((hb.block _ (lt_of_block HBx.out)).trans HBx.out)
    replace HBW := hideP (HBW.out.trans (hb.mono HBW.out.size))
    clear hb
    go_wp2_with fail
    go_ret
    exact ⟨rfl, HBW.out⟩

def costN (a b c : Nat) : Nat := if c = b ∨ b ≠ a then 100 else if a = 0 then 20000 else 2900

def backN (a b c : Nat) : Int := if c = b then 0 else (if a ≠ 0 ∧ b = 0 then -4800 else 0) + (if a ≠ 0 ∧ c = 0 then 4800 else 0) + (if c = a then (if a = 0 then 19900 else 2800) else 0)

theorem store_split (a b c : Nat) (warm : Bool) : storeN a b c warm = (costN a b c + (if warm then 0 else 2100), backN a b c) := by
  unfold storeN costN backN
  dsimp only
  cases warm
  all_goals
    simp only [if_true, Bool.false_eq_true, if_false]
    (repeat' split) <;> first | (exfalso; omega) | (refine Prod.ext ?_ ?_ <;> dsimp only <;> omega)

set_option maxHeartbeats 2000000 in
set_option maxRecDepth 100000 in
theorem storing_any (A B C : Nat) (w : World) : Calls Tryd.prog 71 #[wv A, wv B, wv C] w fun e w' => e = .returned (.int .u64 (costN (A % M256) (B % M256) (C % M256))) ∧ Below w.heap.size w w' := by
  obtain ⟨a0, a1, a2, a3, hA⟩ := wv_form A
  obtain ⟨b0, b1, b2, b3, hB⟩ := wv_form B
  obtain ⟨c0, c1, c2, c3, hC⟩ := wv_form C
  by_cases h1 : C % M256 = B % M256
  · have q1 := fun W => eq_run C B (b := true) (by simp [h1]) hC hB W
    rw [show costN (A % M256) (B % M256) (C % M256) = 100 from if_pos (Or.inl h1), hA, hB, hC]
    clear hA hB hC h1
    go_enter Tryd.func71, Tryd.ntmps71
    go_wp2_with fail
    go_ret
    exact ⟨rfl, (box3 rfl).2.2.2⟩
  by_cases h2 : B % M256 = A % M256
  · by_cases h3 : A % M256 = 0
    · have q1 := fun W => eq_run C B (b := false) (by simp [h1]) hC hB W
      have q2 := fun W => eq_run B A (b := true) (by simp [h2]) hB hA W
      have hc := fun W => isNought_any A W
      rw [show decide (A % M256 = 0) = true from by simp [h3], hA] at hc
      rw [show costN (A % M256) (B % M256) (C % M256) = 20000 from (if_neg (by omega)).trans (if_pos h3), hA, hB, hC]
      have HC := hideP hc
      clear hc hA hB hC h1 h2 h3
      go_enter Tryd.func71, Tryd.ntmps71
      go_wp2_with fail
      refine at_world_q (fun W0 hW0 => ?_)
      obtain ⟨HBa, HBb, HBc, HBW⟩ := box3 hW0
      clear hW0
      replace HBW := hideP HBW
      replace HBa := hideP HBa
      replace HBb := hideP HBb
      replace HBc := hideP HBc
      refine (HC.out _).mono ?_
      rintro e V1 ⟨rfl, hb⟩
      replace HBa := hideP ((hb.block _ (lt_of_block HBa.out)).trans HBa.out)
      replace HBb := hideP ((hb.block _ (lt_of_block HBb.out)).trans HBb.out)
      replace HBc := hideP ((hb.block _ (lt_of_block HBc.out)).trans HBc.out)
      replace HBW := hideP (HBW.out.trans (hb.mono HBW.out.size))
      clear hb
      go_wp2_with fail
      go_ret
      exact ⟨rfl, HBW.out⟩
    · have q1 := fun W => eq_run C B (b := false) (by simp [h1]) hC hB W
      have q2 := fun W => eq_run B A (b := true) (by simp [h2]) hB hA W
      have hc := fun W => isNought_any A W
      rw [show decide (A % M256 = 0) = false from by simp [h3], hA] at hc
      rw [show costN (A % M256) (B % M256) (C % M256) = 2900 from (if_neg (by omega)).trans (if_neg h3), hA, hB, hC]
      have HC := hideP hc
      clear hc hA hB hC h1 h2 h3
      go_enter Tryd.func71, Tryd.ntmps71
      go_wp2_with fail
      refine at_world_q (fun W0 hW0 => ?_)
      obtain ⟨HBa, HBb, HBc, HBW⟩ := box3 hW0
      clear hW0
      replace HBW := hideP HBW
      replace HBa := hideP HBa
      replace HBb := hideP HBb
      replace HBc := hideP HBc
      refine (HC.out _).mono ?_
      rintro e V1 ⟨rfl, hb⟩
      replace HBa := hideP ((hb.block _ (lt_of_block HBa.out)).trans HBa.out)
      replace HBb := hideP ((hb.block _ (lt_of_block HBb.out)).trans HBb.out)
      replace HBc := hideP ((hb.block _ (lt_of_block HBc.out)).trans HBc.out)
      replace HBW := hideP (HBW.out.trans (hb.mono HBW.out.size))
      clear hb
      go_wp2_with fail
      go_ret
      exact ⟨rfl, HBW.out⟩
  · have q1 := fun W => eq_run C B (b := false) (by simp [h1]) hC hB W
    have q2 := fun W => eq_run B A (b := false) (by simp [h2]) hB hA W
    rw [show costN (A % M256) (B % M256) (C % M256) = 100 from if_pos (Or.inr h2), hA, hB, hC]
    clear hA hB hC h1 h2
    go_enter Tryd.func71, Tryd.ntmps71
    go_wp2_with fail
    go_ret
    exact ⟨rfl, (box3 rfl).2.2.2⟩

set_option maxHeartbeats 2000000 in
set_option maxRecDepth 100000 in
theorem refunded_any (A B C : Nat) (w : World) : Calls Tryd.prog 72 #[wv A, wv B, wv C] w fun e w' => e = .returned (.int .i64 (backN (A % M256) (B % M256) (C % M256))) ∧ Below w.heap.size w w' := by
  obtain ⟨a0, a1, a2, a3, hA⟩ := wv_form A
  obtain ⟨b0, b1, b2, b3, hB⟩ := wv_form B
  obtain ⟨c0, c1, c2, c3, hC⟩ := wv_form C
  by_cases h1 : C % M256 = B % M256
  · have q1 := fun W => eq_run C B (b := true) (by simp [h1]) hC hB W
    rw [show backN (A % M256) (B % M256) (C % M256) = 0 from if_pos h1, hA, hB, hC]
    clear hA hB hC h1
    go_enter Tryd.func72, Tryd.ntmps72
    go_wp2_with fail
    go_ret
    exact ⟨rfl, (box3 rfl).2.2.2⟩
  · by_cases hz1 : A % M256 = 0
    · by_cases hz2 : B % M256 = 0
      · by_cases hz3 : C % M256 = 0
        · by_cases h2 : C % M256 = A % M256
          · exfalso; omega
          · exfalso; omega
        · by_cases h2 : C % M256 = A % M256
          · exfalso; omega
          · have q1 := fun W => eq_run C B (b := false) (by simp [h1]) hC hB W
            have q2 := fun W => eq_run C A (b := false) (by simp [h2]) hC hA W
            have n1 := fun W => isNought_any A W
            rw [show decide (A % M256 = 0) = true from by simp [hz1], hA] at n1
            have hv : backN (A % M256) (B % M256) (C % M256) = 0 := by unfold backN; (repeat' split) <;> omega
            rw [hv, hA, hB, hC]
            have N1 := hideP n1
            clear hA hB hC h1 h2 hz1 hz2 hz3 hv n1
            go_enter Tryd.func72, Tryd.ntmps72
            go_wp2_with fail
            refine at_world_q (fun W0 hW0 => ?_)
            obtain ⟨HBa, HBb, HBc, HBW⟩ := box3 hW0
            clear hW0
            replace HBW := hideP HBW
            replace HBa := hideP HBa
            replace HBb := hideP HBb
            replace HBc := hideP HBc
            refine (N1.out _).mono ?_
            rintro e V1 ⟨rfl, hb⟩
            replace HBa := hideP ((hb.block _ (lt_of_block HBa.out)).trans HBa.out)
            replace HBb := hideP ((hb.block _ (lt_of_block HBb.out)).trans HBb.out)
            replace HBc := hideP ((hb.block _ (lt_of_block HBc.out)).trans HBc.out)
            replace HBW := hideP (HBW.out.trans (hb.mono HBW.out.size))
            clear hb
            obtain ⟨ca0, ca1, ca2, ca3⟩ := cells4 HBa.out
            have hla := lt_of_block HBa.out
            obtain ⟨cb0, cb1, cb2, cb3⟩ := cells4 HBb.out
            have hlb := lt_of_block HBb.out
            obtain ⟨cc0, cc1, cc2, cc3⟩ := cells4 HBc.out
            have hlc := lt_of_block HBc.out
            go_wp2_with fail
            clear ca0 ca1 ca2 ca3 hla
            clear cb0 cb1 cb2 cb3 hlb
            clear cc0 cc1 cc2 cc3 hlc
            refine (N1.out _).mono ?_
            rintro e V2 ⟨rfl, hb⟩
            replace HBa := hideP ((hb.block _ (lt_of_block HBa.out)).trans HBa.out)
            replace HBb := hideP ((hb.block _ (lt_of_block HBb.out)).trans HBb.out)
            replace HBc := hideP ((hb.block _ (lt_of_block HBc.out)).trans HBc.out)
            replace HBW := hideP (HBW.out.trans (hb.mono HBW.out.size))
            clear hb
            obtain ⟨ca0, ca1, ca2, ca3⟩ := cells4 HBa.out
            have hla := lt_of_block HBa.out
            obtain ⟨cb0, cb1, cb2, cb3⟩ := cells4 HBb.out
            have hlb := lt_of_block HBb.out
            obtain ⟨cc0, cc1, cc2, cc3⟩ := cells4 HBc.out
            have hlc := lt_of_block HBc.out
            go_wp2_with fail
            go_ret
            exact ⟨rfl, HBW.out⟩
      · by_cases hz3 : C % M256 = 0
        · by_cases h2 : C % M256 = A % M256
          · have q1 := fun W => eq_run C B (b := false) (by simp [h1]) hC hB W
            have q2 := fun W => eq_run C A (b := true) (by simp [h2]) hC hA W
            have n1 := fun W => isNought_any A W
            rw [show decide (A % M256 = 0) = true from by simp [hz1], hA] at n1
            have hv : backN (A % M256) (B % M256) (C % M256) = 19900 := by unfold backN; (repeat' split) <;> omega
            rw [hv, hA, hB, hC]
            have hu := fun W => undone_any A W
            rw [if_pos hz1, hA] at hu
            have HU := hideP hu
            clear hu
            have N1 := hideP n1
            clear hA hB hC h1 h2 hz1 hz2 hz3 hv n1
            go_enter Tryd.func72, Tryd.ntmps72
            go_wp2_with fail
            refine at_world_q (fun W0 hW0 => ?_)
            obtain ⟨HBa, HBb, HBc, HBW⟩ := box3 hW0
            clear hW0
            replace HBW := hideP HBW
            replace HBa := hideP HBa
            replace HBb := hideP HBb
            replace HBc := hideP HBc
            refine (N1.out _).mono ?_
            rintro e V1 ⟨rfl, hb⟩
            replace HBa := hideP ((hb.block _ (lt_of_block HBa.out)).trans HBa.out)
            replace HBb := hideP ((hb.block _ (lt_of_block HBb.out)).trans HBb.out)
            replace HBc := hideP ((hb.block _ (lt_of_block HBc.out)).trans HBc.out)
            replace HBW := hideP (HBW.out.trans (hb.mono HBW.out.size))
            clear hb
            obtain ⟨ca0, ca1, ca2, ca3⟩ := cells4 HBa.out
            have hla := lt_of_block HBa.out
            obtain ⟨cb0, cb1, cb2, cb3⟩ := cells4 HBb.out
            have hlb := lt_of_block HBb.out
            obtain ⟨cc0, cc1, cc2, cc3⟩ := cells4 HBc.out
            have hlc := lt_of_block HBc.out
            go_wp2_with fail
            clear ca0 ca1 ca2 ca3 hla
            clear cb0 cb1 cb2 cb3 hlb
            clear cc0 cc1 cc2 cc3 hlc
            refine (N1.out _).mono ?_
            rintro e V2 ⟨rfl, hb⟩
            replace HBa := hideP ((hb.block _ (lt_of_block HBa.out)).trans HBa.out)
            replace HBb := hideP ((hb.block _ (lt_of_block HBb.out)).trans HBb.out)
            replace HBc := hideP ((hb.block _ (lt_of_block HBc.out)).trans HBc.out)
            replace HBW := hideP (HBW.out.trans (hb.mono HBW.out.size))
            clear hb
            obtain ⟨ca0, ca1, ca2, ca3⟩ := cells4 HBa.out
            have hla := lt_of_block HBa.out
            obtain ⟨cb0, cb1, cb2, cb3⟩ := cells4 HBb.out
            have hlb := lt_of_block HBb.out
            obtain ⟨cc0, cc1, cc2, cc3⟩ := cells4 HBc.out
            have hlc := lt_of_block HBc.out
            go_wp2_with fail
            clear ca0 ca1 ca2 ca3 hla
            clear cb0 cb1 cb2 cb3 hlb
            clear cc0 cc1 cc2 cc3 hlc
            refine (HU.out _).mono ?_
            rintro e V3 ⟨rfl, hb⟩
            replace HBa := hideP ((hb.block _ (lt_of_block HBa.out)).trans HBa.out)
            replace HBb := hideP ((hb.block _ (lt_of_block HBb.out)).trans HBb.out)
            replace HBc := hideP ((hb.block _ (lt_of_block HBc.out)).trans HBc.out)
            replace HBW := hideP (HBW.out.trans (hb.mono HBW.out.size))
            clear hb
            go_wp2_with fail
            go_ret
            exact ⟨rfl, HBW.out⟩
          · exfalso; omega
        · by_cases h2 : C % M256 = A % M256
          · exfalso; omega
          · have q1 := fun W => eq_run C B (b := false) (by simp [h1]) hC hB W
            have q2 := fun W => eq_run C A (b := false) (by simp [h2]) hC hA W
            have n1 := fun W => isNought_any A W
            rw [show decide (A % M256 = 0) = true from by simp [hz1], hA] at n1
            have hv : backN (A % M256) (B % M256) (C % M256) = 0 := by unfold backN; (repeat' split) <;> omega
            rw [hv, hA, hB, hC]
            have N1 := hideP n1
            clear hA hB hC h1 h2 hz1 hz2 hz3 hv n1
            go_enter Tryd.func72, Tryd.ntmps72
            go_wp2_with fail
            refine at_world_q (fun W0 hW0 => ?_)
            obtain ⟨HBa, HBb, HBc, HBW⟩ := box3 hW0
            clear hW0
            replace HBW := hideP HBW
            replace HBa := hideP HBa
            replace HBb := hideP HBb
            replace HBc := hideP HBc
            refine (N1.out _).mono ?_
            rintro e V1 ⟨rfl, hb⟩
            replace HBa := hideP ((hb.block _ (lt_of_block HBa.out)).trans HBa.out)
            replace HBb := hideP ((hb.block _ (lt_of_block HBb.out)).trans HBb.out)
            replace HBc := hideP ((hb.block _ (lt_of_block HBc.out)).trans HBc.out)
            replace HBW := hideP (HBW.out.trans (hb.mono HBW.out.size))
            clear hb
            obtain ⟨ca0, ca1, ca2, ca3⟩ := cells4 HBa.out
            have hla := lt_of_block HBa.out
            obtain ⟨cb0, cb1, cb2, cb3⟩ := cells4 HBb.out
            have hlb := lt_of_block HBb.out
            obtain ⟨cc0, cc1, cc2, cc3⟩ := cells4 HBc.out
            have hlc := lt_of_block HBc.out
            go_wp2_with fail
            clear ca0 ca1 ca2 ca3 hla
            clear cb0 cb1 cb2 cb3 hlb
            clear cc0 cc1 cc2 cc3 hlc
            refine (N1.out _).mono ?_
            rintro e V2 ⟨rfl, hb⟩
            replace HBa := hideP ((hb.block _ (lt_of_block HBa.out)).trans HBa.out)
            replace HBb := hideP ((hb.block _ (lt_of_block HBb.out)).trans HBb.out)
            replace HBc := hideP ((hb.block _ (lt_of_block HBc.out)).trans HBc.out)
            replace HBW := hideP (HBW.out.trans (hb.mono HBW.out.size))
            clear hb
            obtain ⟨ca0, ca1, ca2, ca3⟩ := cells4 HBa.out
            have hla := lt_of_block HBa.out
            obtain ⟨cb0, cb1, cb2, cb3⟩ := cells4 HBb.out
            have hlb := lt_of_block HBb.out
            obtain ⟨cc0, cc1, cc2, cc3⟩ := cells4 HBc.out
            have hlc := lt_of_block HBc.out
            go_wp2_with fail
            go_ret
            exact ⟨rfl, HBW.out⟩
    · by_cases hz2 : B % M256 = 0
      · by_cases hz3 : C % M256 = 0
        · by_cases h2 : C % M256 = A % M256
          · exfalso; omega
          · exfalso; omega
        · by_cases h2 : C % M256 = A % M256
          · have q1 := fun W => eq_run C B (b := false) (by simp [h1]) hC hB W
            have q2 := fun W => eq_run C A (b := true) (by simp [h2]) hC hA W
            have n1 := fun W => isNought_any A W
            rw [show decide (A % M256 = 0) = false from by simp [hz1], hA] at n1
            have n2 := fun W => isNought_any B W
            rw [show decide (B % M256 = 0) = true from by simp [hz2], hB] at n2
            have n3 := fun W => isNought_any C W
            rw [show decide (C % M256 = 0) = false from by simp [hz3], hC] at n3
            have hv : backN (A % M256) (B % M256) (C % M256) = -2000 := by unfold backN; (repeat' split) <;> omega
            rw [hv, hA, hB, hC]
            have hu := fun W => undone_any A W
            rw [if_neg hz1, hA] at hu
            have HU := hideP hu
            clear hu
            have N1 := hideP n1
            have N2 := hideP n2
            have N3 := hideP n3
            clear hA hB hC h1 h2 hz1 hz2 hz3 hv n1 n2 n3
            go_enter Tryd.func72, Tryd.ntmps72
            go_wp2_with fail
            refine at_world_q (fun W0 hW0 => ?_)
            obtain ⟨HBa, HBb, HBc, HBW⟩ := box3 hW0
            clear hW0
            replace HBW := hideP HBW
            replace HBa := hideP HBa
            replace HBb := hideP HBb
            replace HBc := hideP HBc
            refine (N1.out _).mono ?_
            rintro e V1 ⟨rfl, hb⟩
            replace HBa := hideP ((hb.block _ (lt_of_block HBa.out)).trans HBa.out)
            replace HBb := hideP ((hb.block _ (lt_of_block HBb.out)).trans HBb.out)
            replace HBc := hideP ((hb.block _ (lt_of_block HBc.out)).trans HBc.out)
            replace HBW := hideP (HBW.out.trans (hb.mono HBW.out.size))
            clear hb
            obtain ⟨ca0, ca1, ca2, ca3⟩ := cells4 HBa.out
            have hla := lt_of_block HBa.out
            obtain ⟨cb0, cb1, cb2, cb3⟩ := cells4 HBb.out
            have hlb := lt_of_block HBb.out
            obtain ⟨cc0, cc1, cc2, cc3⟩ := cells4 HBc.out
            have hlc := lt_of_block HBc.out
            go_wp2_with fail
            clear ca0 ca1 ca2 ca3 hla
            clear cb0 cb1 cb2 cb3 hlb
            clear cc0 cc1 cc2 cc3 hlc
            refine (N2.out _).mono ?_
            rintro e V2 ⟨rfl, hb⟩
            replace HBa := hideP ((hb.block _ (lt_of_block HBa.out)).trans HBa.out)
            replace HBb := hideP ((hb.block _ (lt_of_block HBb.out)).trans HBb.out)
            replace HBc := hideP ((hb.block _ (lt_of_block HBc.out)).trans HBc.out)
            replace HBW := hideP (HBW.out.trans (hb.mono HBW.out.size))
            clear hb
            obtain ⟨ca0, ca1, ca2, ca3⟩ := cells4 HBa.out
            have hla := lt_of_block HBa.out
            obtain ⟨cb0, cb1, cb2, cb3⟩ := cells4 HBb.out
            have hlb := lt_of_block HBb.out
            obtain ⟨cc0, cc1, cc2, cc3⟩ := cells4 HBc.out
            have hlc := lt_of_block HBc.out
            go_wp2_with fail
            clear ca0 ca1 ca2 ca3 hla
            clear cb0 cb1 cb2 cb3 hlb
            clear cc0 cc1 cc2 cc3 hlc
            refine (N1.out _).mono ?_
            rintro e V3 ⟨rfl, hb⟩
            replace HBa := hideP ((hb.block _ (lt_of_block HBa.out)).trans HBa.out)
            replace HBb := hideP ((hb.block _ (lt_of_block HBb.out)).trans HBb.out)
            replace HBc := hideP ((hb.block _ (lt_of_block HBc.out)).trans HBc.out)
            replace HBW := hideP (HBW.out.trans (hb.mono HBW.out.size))
            clear hb
            obtain ⟨ca0, ca1, ca2, ca3⟩ := cells4 HBa.out
            have hla := lt_of_block HBa.out
            obtain ⟨cb0, cb1, cb2, cb3⟩ := cells4 HBb.out
            have hlb := lt_of_block HBb.out
            obtain ⟨cc0, cc1, cc2, cc3⟩ := cells4 HBc.out
            have hlc := lt_of_block HBc.out
            go_wp2_with fail
            clear ca0 ca1 ca2 ca3 hla
            clear cb0 cb1 cb2 cb3 hlb
            clear cc0 cc1 cc2 cc3 hlc
            refine (N3.out _).mono ?_
            rintro e V4 ⟨rfl, hb⟩
            replace HBa := hideP ((hb.block _ (lt_of_block HBa.out)).trans HBa.out)
            replace HBb := hideP ((hb.block _ (lt_of_block HBb.out)).trans HBb.out)
            replace HBc := hideP ((hb.block _ (lt_of_block HBc.out)).trans HBc.out)
            replace HBW := hideP (HBW.out.trans (hb.mono HBW.out.size))
            clear hb
            obtain ⟨ca0, ca1, ca2, ca3⟩ := cells4 HBa.out
            have hla := lt_of_block HBa.out
            obtain ⟨cb0, cb1, cb2, cb3⟩ := cells4 HBb.out
            have hlb := lt_of_block HBb.out
            obtain ⟨cc0, cc1, cc2, cc3⟩ := cells4 HBc.out
            have hlc := lt_of_block HBc.out
            go_wp2_with fail
            clear ca0 ca1 ca2 ca3 hla
            clear cb0 cb1 cb2 cb3 hlb
            clear cc0 cc1 cc2 cc3 hlc
            refine (HU.out _).mono ?_
            rintro e V5 ⟨rfl, hb⟩
            replace HBa := hideP ((hb.block _ (lt_of_block HBa.out)).trans HBa.out)
            replace HBb := hideP ((hb.block _ (lt_of_block HBb.out)).trans HBb.out)
            replace HBc := hideP ((hb.block _ (lt_of_block HBc.out)).trans HBc.out)
            replace HBW := hideP (HBW.out.trans (hb.mono HBW.out.size))
            clear hb
            go_wp2_with fail
            go_ret
            exact ⟨rfl, HBW.out⟩
          · have q1 := fun W => eq_run C B (b := false) (by simp [h1]) hC hB W
            have q2 := fun W => eq_run C A (b := false) (by simp [h2]) hC hA W
            have n1 := fun W => isNought_any A W
            rw [show decide (A % M256 = 0) = false from by simp [hz1], hA] at n1
            have n2 := fun W => isNought_any B W
            rw [show decide (B % M256 = 0) = true from by simp [hz2], hB] at n2
            have n3 := fun W => isNought_any C W
            rw [show decide (C % M256 = 0) = false from by simp [hz3], hC] at n3
            have hv : backN (A % M256) (B % M256) (C % M256) = -4800 := by unfold backN; (repeat' split) <;> omega
            rw [hv, hA, hB, hC]
            have N1 := hideP n1
            have N2 := hideP n2
            have N3 := hideP n3
            clear hA hB hC h1 h2 hz1 hz2 hz3 hv n1 n2 n3
            go_enter Tryd.func72, Tryd.ntmps72
            go_wp2_with fail
            refine at_world_q (fun W0 hW0 => ?_)
            obtain ⟨HBa, HBb, HBc, HBW⟩ := box3 hW0
            clear hW0
            replace HBW := hideP HBW
            replace HBa := hideP HBa
            replace HBb := hideP HBb
            replace HBc := hideP HBc
            refine (N1.out _).mono ?_
            rintro e V1 ⟨rfl, hb⟩
            replace HBa := hideP ((hb.block _ (lt_of_block HBa.out)).trans HBa.out)
            replace HBb := hideP ((hb.block _ (lt_of_block HBb.out)).trans HBb.out)
            replace HBc := hideP ((hb.block _ (lt_of_block HBc.out)).trans HBc.out)
            replace HBW := hideP (HBW.out.trans (hb.mono HBW.out.size))
            clear hb
            obtain ⟨ca0, ca1, ca2, ca3⟩ := cells4 HBa.out
            have hla := lt_of_block HBa.out
            obtain ⟨cb0, cb1, cb2, cb3⟩ := cells4 HBb.out
            have hlb := lt_of_block HBb.out
            obtain ⟨cc0, cc1, cc2, cc3⟩ := cells4 HBc.out
            have hlc := lt_of_block HBc.out
            go_wp2_with fail
            clear ca0 ca1 ca2 ca3 hla
            clear cb0 cb1 cb2 cb3 hlb
            clear cc0 cc1 cc2 cc3 hlc
            refine (N2.out _).mono ?_
            rintro e V2 ⟨rfl, hb⟩
            replace HBa := hideP ((hb.block _ (lt_of_block HBa.out)).trans HBa.out)
            replace HBb := hideP ((hb.block _ (lt_of_block HBb.out)).trans HBb.out)
            replace HBc := hideP ((hb.block _ (lt_of_block HBc.out)).trans HBc.out)
            replace HBW := hideP (HBW.out.trans (hb.mono HBW.out.size))
            clear hb
            obtain ⟨ca0, ca1, ca2, ca3⟩ := cells4 HBa.out
            have hla := lt_of_block HBa.out
            obtain ⟨cb0, cb1, cb2, cb3⟩ := cells4 HBb.out
            have hlb := lt_of_block HBb.out
            obtain ⟨cc0, cc1, cc2, cc3⟩ := cells4 HBc.out
            have hlc := lt_of_block HBc.out
            go_wp2_with fail
            clear ca0 ca1 ca2 ca3 hla
            clear cb0 cb1 cb2 cb3 hlb
            clear cc0 cc1 cc2 cc3 hlc
            refine (N1.out _).mono ?_
            rintro e V3 ⟨rfl, hb⟩
            replace HBa := hideP ((hb.block _ (lt_of_block HBa.out)).trans HBa.out)
            replace HBb := hideP ((hb.block _ (lt_of_block HBb.out)).trans HBb.out)
            replace HBc := hideP ((hb.block _ (lt_of_block HBc.out)).trans HBc.out)
            replace HBW := hideP (HBW.out.trans (hb.mono HBW.out.size))
            clear hb
            obtain ⟨ca0, ca1, ca2, ca3⟩ := cells4 HBa.out
            have hla := lt_of_block HBa.out
            obtain ⟨cb0, cb1, cb2, cb3⟩ := cells4 HBb.out
            have hlb := lt_of_block HBb.out
            obtain ⟨cc0, cc1, cc2, cc3⟩ := cells4 HBc.out
            have hlc := lt_of_block HBc.out
            go_wp2_with fail
            clear ca0 ca1 ca2 ca3 hla
            clear cb0 cb1 cb2 cb3 hlb
            clear cc0 cc1 cc2 cc3 hlc
            refine (N3.out _).mono ?_
            rintro e V4 ⟨rfl, hb⟩
            replace HBa := hideP ((hb.block _ (lt_of_block HBa.out)).trans HBa.out)
            replace HBb := hideP ((hb.block _ (lt_of_block HBb.out)).trans HBb.out)
            replace HBc := hideP ((hb.block _ (lt_of_block HBc.out)).trans HBc.out)
            replace HBW := hideP (HBW.out.trans (hb.mono HBW.out.size))
            clear hb
            obtain ⟨ca0, ca1, ca2, ca3⟩ := cells4 HBa.out
            have hla := lt_of_block HBa.out
            obtain ⟨cb0, cb1, cb2, cb3⟩ := cells4 HBb.out
            have hlb := lt_of_block HBb.out
            obtain ⟨cc0, cc1, cc2, cc3⟩ := cells4 HBc.out
            have hlc := lt_of_block HBc.out
            go_wp2_with fail
            go_ret
            exact ⟨rfl, HBW.out⟩
      · by_cases hz3 : C % M256 = 0
        · by_cases h2 : C % M256 = A % M256
          · exfalso; omega
          · have q1 := fun W => eq_run C B (b := false) (by simp [h1]) hC hB W
            have q2 := fun W => eq_run C A (b := false) (by simp [h2]) hC hA W
            have n1 := fun W => isNought_any A W
            rw [show decide (A % M256 = 0) = false from by simp [hz1], hA] at n1
            have n2 := fun W => isNought_any B W
            rw [show decide (B % M256 = 0) = false from by simp [hz2], hB] at n2
            have n3 := fun W => isNought_any C W
            rw [show decide (C % M256 = 0) = true from by simp [hz3], hC] at n3
            have hv : backN (A % M256) (B % M256) (C % M256) = 4800 := by unfold backN; (repeat' split) <;> omega
            rw [hv, hA, hB, hC]
            have N1 := hideP n1
            have N2 := hideP n2
            have N3 := hideP n3
            clear hA hB hC h1 h2 hz1 hz2 hz3 hv n1 n2 n3
            go_enter Tryd.func72, Tryd.ntmps72
            go_wp2_with fail
            refine at_world_q (fun W0 hW0 => ?_)
            obtain ⟨HBa, HBb, HBc, HBW⟩ := box3 hW0
            clear hW0
            replace HBW := hideP HBW
            replace HBa := hideP HBa
            replace HBb := hideP HBb
            replace HBc := hideP HBc
            refine (N1.out _).mono ?_
            rintro e V1 ⟨rfl, hb⟩
            replace HBa := hideP ((hb.block _ (lt_of_block HBa.out)).trans HBa.out)
            replace HBb := hideP ((hb.block _ (lt_of_block HBb.out)).trans HBb.out)
            replace HBc := hideP ((hb.block _ (lt_of_block HBc.out)).trans HBc.out)
            replace HBW := hideP (HBW.out.trans (hb.mono HBW.out.size))
            clear hb
            obtain ⟨ca0, ca1, ca2, ca3⟩ := cells4 HBa.out
            have hla := lt_of_block HBa.out
            obtain ⟨cb0, cb1, cb2, cb3⟩ := cells4 HBb.out
            have hlb := lt_of_block HBb.out
            obtain ⟨cc0, cc1, cc2, cc3⟩ := cells4 HBc.out
            have hlc := lt_of_block HBc.out
            go_wp2_with fail
            clear ca0 ca1 ca2 ca3 hla
            clear cb0 cb1 cb2 cb3 hlb
            clear cc0 cc1 cc2 cc3 hlc
            refine (N2.out _).mono ?_
            rintro e V2 ⟨rfl, hb⟩
            replace HBa := hideP ((hb.block _ (lt_of_block HBa.out)).trans HBa.out)
            replace HBb := hideP ((hb.block _ (lt_of_block HBb.out)).trans HBb.out)
            replace HBc := hideP ((hb.block _ (lt_of_block HBc.out)).trans HBc.out)
            replace HBW := hideP (HBW.out.trans (hb.mono HBW.out.size))
            clear hb
            obtain ⟨ca0, ca1, ca2, ca3⟩ := cells4 HBa.out
            have hla := lt_of_block HBa.out
            obtain ⟨cb0, cb1, cb2, cb3⟩ := cells4 HBb.out
            have hlb := lt_of_block HBb.out
            obtain ⟨cc0, cc1, cc2, cc3⟩ := cells4 HBc.out
            have hlc := lt_of_block HBc.out
            go_wp2_with fail
            clear ca0 ca1 ca2 ca3 hla
            clear cb0 cb1 cb2 cb3 hlb
            clear cc0 cc1 cc2 cc3 hlc
            refine (N1.out _).mono ?_
            rintro e V3 ⟨rfl, hb⟩
            replace HBa := hideP ((hb.block _ (lt_of_block HBa.out)).trans HBa.out)
            replace HBb := hideP ((hb.block _ (lt_of_block HBb.out)).trans HBb.out)
            replace HBc := hideP ((hb.block _ (lt_of_block HBc.out)).trans HBc.out)
            replace HBW := hideP (HBW.out.trans (hb.mono HBW.out.size))
            clear hb
            obtain ⟨ca0, ca1, ca2, ca3⟩ := cells4 HBa.out
            have hla := lt_of_block HBa.out
            obtain ⟨cb0, cb1, cb2, cb3⟩ := cells4 HBb.out
            have hlb := lt_of_block HBb.out
            obtain ⟨cc0, cc1, cc2, cc3⟩ := cells4 HBc.out
            have hlc := lt_of_block HBc.out
            go_wp2_with fail
            clear ca0 ca1 ca2 ca3 hla
            clear cb0 cb1 cb2 cb3 hlb
            clear cc0 cc1 cc2 cc3 hlc
            refine (N3.out _).mono ?_
            rintro e V4 ⟨rfl, hb⟩
            replace HBa := hideP ((hb.block _ (lt_of_block HBa.out)).trans HBa.out)
            replace HBb := hideP ((hb.block _ (lt_of_block HBb.out)).trans HBb.out)
            replace HBc := hideP ((hb.block _ (lt_of_block HBc.out)).trans HBc.out)
            replace HBW := hideP (HBW.out.trans (hb.mono HBW.out.size))
            clear hb
            obtain ⟨ca0, ca1, ca2, ca3⟩ := cells4 HBa.out
            have hla := lt_of_block HBa.out
            obtain ⟨cb0, cb1, cb2, cb3⟩ := cells4 HBb.out
            have hlb := lt_of_block HBb.out
            obtain ⟨cc0, cc1, cc2, cc3⟩ := cells4 HBc.out
            have hlc := lt_of_block HBc.out
            go_wp2_with fail
            go_ret
            exact ⟨rfl, HBW.out⟩
        · by_cases h2 : C % M256 = A % M256
          · have q1 := fun W => eq_run C B (b := false) (by simp [h1]) hC hB W
            have q2 := fun W => eq_run C A (b := true) (by simp [h2]) hC hA W
            have n1 := fun W => isNought_any A W
            rw [show decide (A % M256 = 0) = false from by simp [hz1], hA] at n1
            have n2 := fun W => isNought_any B W
            rw [show decide (B % M256 = 0) = false from by simp [hz2], hB] at n2
            have n3 := fun W => isNought_any C W
            rw [show decide (C % M256 = 0) = false from by simp [hz3], hC] at n3
            have hv : backN (A % M256) (B % M256) (C % M256) = 2800 := by unfold backN; (repeat' split) <;> omega
            rw [hv, hA, hB, hC]
            have hu := fun W => undone_any A W
            rw [if_neg hz1, hA] at hu
            have HU := hideP hu
            clear hu
            have N1 := hideP n1
            have N2 := hideP n2
            have N3 := hideP n3
            clear hA hB hC h1 h2 hz1 hz2 hz3 hv n1 n2 n3
            go_enter Tryd.func72, Tryd.ntmps72
            go_wp2_with fail
            refine at_world_q (fun W0 hW0 => ?_)
            obtain ⟨HBa, HBb, HBc, HBW⟩ := box3 hW0
            clear hW0
            replace HBW := hideP HBW
            replace HBa := hideP HBa
            replace HBb := hideP HBb
            replace HBc := hideP HBc
            refine (N1.out _).mono ?_
            rintro e V1 ⟨rfl, hb⟩
            replace HBa := hideP ((hb.block _ (lt_of_block HBa.out)).trans HBa.out)
            replace HBb := hideP ((hb.block _ (lt_of_block HBb.out)).trans HBb.out)
            replace HBc := hideP ((hb.block _ (lt_of_block HBc.out)).trans HBc.out)
            replace HBW := hideP (HBW.out.trans (hb.mono HBW.out.size))
            clear hb
            obtain ⟨ca0, ca1, ca2, ca3⟩ := cells4 HBa.out
            have hla := lt_of_block HBa.out
            obtain ⟨cb0, cb1, cb2, cb3⟩ := cells4 HBb.out
            have hlb := lt_of_block HBb.out
            obtain ⟨cc0, cc1, cc2, cc3⟩ := cells4 HBc.out
            have hlc := lt_of_block HBc.out
            go_wp2_with fail
            clear ca0 ca1 ca2 ca3 hla
            clear cb0 cb1 cb2 cb3 hlb
            clear cc0 cc1 cc2 cc3 hlc
            refine (N2.out _).mono ?_
            rintro e V2 ⟨rfl, hb⟩
            replace HBa := hideP ((hb.block _ (lt_of_block HBa.out)).trans HBa.out)
            replace HBb := hideP ((hb.block _ (lt_of_block HBb.out)).trans HBb.out)
            replace HBc := hideP ((hb.block _ (lt_of_block HBc.out)).trans HBc.out)
            replace HBW := hideP (HBW.out.trans (hb.mono HBW.out.size))
            clear hb
            obtain ⟨ca0, ca1, ca2, ca3⟩ := cells4 HBa.out
            have hla := lt_of_block HBa.out
            obtain ⟨cb0, cb1, cb2, cb3⟩ := cells4 HBb.out
            have hlb := lt_of_block HBb.out
            obtain ⟨cc0, cc1, cc2, cc3⟩ := cells4 HBc.out
            have hlc := lt_of_block HBc.out
            go_wp2_with fail
            clear ca0 ca1 ca2 ca3 hla
            clear cb0 cb1 cb2 cb3 hlb
            clear cc0 cc1 cc2 cc3 hlc
            refine (N1.out _).mono ?_
            rintro e V3 ⟨rfl, hb⟩
            replace HBa := hideP ((hb.block _ (lt_of_block HBa.out)).trans HBa.out)
            replace HBb := hideP ((hb.block _ (lt_of_block HBb.out)).trans HBb.out)
            replace HBc := hideP ((hb.block _ (lt_of_block HBc.out)).trans HBc.out)
            replace HBW := hideP (HBW.out.trans (hb.mono HBW.out.size))
            clear hb
            obtain ⟨ca0, ca1, ca2, ca3⟩ := cells4 HBa.out
            have hla := lt_of_block HBa.out
            obtain ⟨cb0, cb1, cb2, cb3⟩ := cells4 HBb.out
            have hlb := lt_of_block HBb.out
            obtain ⟨cc0, cc1, cc2, cc3⟩ := cells4 HBc.out
            have hlc := lt_of_block HBc.out
            go_wp2_with fail
            clear ca0 ca1 ca2 ca3 hla
            clear cb0 cb1 cb2 cb3 hlb
            clear cc0 cc1 cc2 cc3 hlc
            refine (N3.out _).mono ?_
            rintro e V4 ⟨rfl, hb⟩
            replace HBa := hideP ((hb.block _ (lt_of_block HBa.out)).trans HBa.out)
            replace HBb := hideP ((hb.block _ (lt_of_block HBb.out)).trans HBb.out)
            replace HBc := hideP ((hb.block _ (lt_of_block HBc.out)).trans HBc.out)
            replace HBW := hideP (HBW.out.trans (hb.mono HBW.out.size))
            clear hb
            obtain ⟨ca0, ca1, ca2, ca3⟩ := cells4 HBa.out
            have hla := lt_of_block HBa.out
            obtain ⟨cb0, cb1, cb2, cb3⟩ := cells4 HBb.out
            have hlb := lt_of_block HBb.out
            obtain ⟨cc0, cc1, cc2, cc3⟩ := cells4 HBc.out
            have hlc := lt_of_block HBc.out
            go_wp2_with fail
            clear ca0 ca1 ca2 ca3 hla
            clear cb0 cb1 cb2 cb3 hlb
            clear cc0 cc1 cc2 cc3 hlc
            refine (HU.out _).mono ?_
            rintro e V5 ⟨rfl, hb⟩
            replace HBa := hideP ((hb.block _ (lt_of_block HBa.out)).trans HBa.out)
            replace HBb := hideP ((hb.block _ (lt_of_block HBb.out)).trans HBb.out)
            replace HBc := hideP ((hb.block _ (lt_of_block HBc.out)).trans HBc.out)
            replace HBW := hideP (HBW.out.trans (hb.mono HBW.out.size))
            clear hb
            go_wp2_with fail
            go_ret
            exact ⟨rfl, HBW.out⟩
          · have q1 := fun W => eq_run C B (b := false) (by simp [h1]) hC hB W
            have q2 := fun W => eq_run C A (b := false) (by simp [h2]) hC hA W
            have n1 := fun W => isNought_any A W
            rw [show decide (A % M256 = 0) = false from by simp [hz1], hA] at n1
            have n2 := fun W => isNought_any B W
            rw [show decide (B % M256 = 0) = false from by simp [hz2], hB] at n2
            have n3 := fun W => isNought_any C W
            rw [show decide (C % M256 = 0) = false from by simp [hz3], hC] at n3
            have hv : backN (A % M256) (B % M256) (C % M256) = 0 := by unfold backN; (repeat' split) <;> omega
            rw [hv, hA, hB, hC]
            have N1 := hideP n1
            have N2 := hideP n2
            have N3 := hideP n3
            clear hA hB hC h1 h2 hz1 hz2 hz3 hv n1 n2 n3
            go_enter Tryd.func72, Tryd.ntmps72
            go_wp2_with fail
            refine at_world_q (fun W0 hW0 => ?_)
            obtain ⟨HBa, HBb, HBc, HBW⟩ := box3 hW0
            clear hW0
            replace HBW := hideP HBW
            replace HBa := hideP HBa
            replace HBb := hideP HBb
            replace HBc := hideP HBc
            refine (N1.out _).mono ?_
            rintro e V1 ⟨rfl, hb⟩
            replace HBa := hideP ((hb.block _ (lt_of_block HBa.out)).trans HBa.out)
            replace HBb := hideP ((hb.block _ (lt_of_block HBb.out)).trans HBb.out)
            replace HBc := hideP ((hb.block _ (lt_of_block HBc.out)).trans HBc.out)
            replace HBW := hideP (HBW.out.trans (hb.mono HBW.out.size))
            clear hb
            obtain ⟨ca0, ca1, ca2, ca3⟩ := cells4 HBa.out
            have hla := lt_of_block HBa.out
            obtain ⟨cb0, cb1, cb2, cb3⟩ := cells4 HBb.out
            have hlb := lt_of_block HBb.out
            obtain ⟨cc0, cc1, cc2, cc3⟩ := cells4 HBc.out
            have hlc := lt_of_block HBc.out
            go_wp2_with fail
            clear ca0 ca1 ca2 ca3 hla
            clear cb0 cb1 cb2 cb3 hlb
            clear cc0 cc1 cc2 cc3 hlc
            refine (N2.out _).mono ?_
            rintro e V2 ⟨rfl, hb⟩
            replace HBa := hideP ((hb.block _ (lt_of_block HBa.out)).trans HBa.out)
            replace HBb := hideP ((hb.block _ (lt_of_block HBb.out)).trans HBb.out)
            replace HBc := hideP ((hb.block _ (lt_of_block HBc.out)).trans HBc.out)
            replace HBW := hideP (HBW.out.trans (hb.mono HBW.out.size))
            clear hb
            obtain ⟨ca0, ca1, ca2, ca3⟩ := cells4 HBa.out
            have hla := lt_of_block HBa.out
            obtain ⟨cb0, cb1, cb2, cb3⟩ := cells4 HBb.out
            have hlb := lt_of_block HBb.out
            obtain ⟨cc0, cc1, cc2, cc3⟩ := cells4 HBc.out
            have hlc := lt_of_block HBc.out
            go_wp2_with fail
            clear ca0 ca1 ca2 ca3 hla
            clear cb0 cb1 cb2 cb3 hlb
            clear cc0 cc1 cc2 cc3 hlc
            refine (N1.out _).mono ?_
            rintro e V3 ⟨rfl, hb⟩
            replace HBa := hideP ((hb.block _ (lt_of_block HBa.out)).trans HBa.out)
            replace HBb := hideP ((hb.block _ (lt_of_block HBb.out)).trans HBb.out)
            replace HBc := hideP ((hb.block _ (lt_of_block HBc.out)).trans HBc.out)
            replace HBW := hideP (HBW.out.trans (hb.mono HBW.out.size))
            clear hb
            obtain ⟨ca0, ca1, ca2, ca3⟩ := cells4 HBa.out
            have hla := lt_of_block HBa.out
            obtain ⟨cb0, cb1, cb2, cb3⟩ := cells4 HBb.out
            have hlb := lt_of_block HBb.out
            obtain ⟨cc0, cc1, cc2, cc3⟩ := cells4 HBc.out
            have hlc := lt_of_block HBc.out
            go_wp2_with fail
            clear ca0 ca1 ca2 ca3 hla
            clear cb0 cb1 cb2 cb3 hlb
            clear cc0 cc1 cc2 cc3 hlc
            refine (N3.out _).mono ?_
            rintro e V4 ⟨rfl, hb⟩
            replace HBa := hideP ((hb.block _ (lt_of_block HBa.out)).trans HBa.out)
            replace HBb := hideP ((hb.block _ (lt_of_block HBb.out)).trans HBb.out)
            replace HBc := hideP ((hb.block _ (lt_of_block HBc.out)).trans HBc.out)
            replace HBW := hideP (HBW.out.trans (hb.mono HBW.out.size))
            clear hb
            obtain ⟨ca0, ca1, ca2, ca3⟩ := cells4 HBa.out
            have hla := lt_of_block HBa.out
            obtain ⟨cb0, cb1, cb2, cb3⟩ := cells4 HBb.out
            have hlb := lt_of_block HBb.out
            obtain ⟨cc0, cc1, cc2, cc3⟩ := cells4 HBc.out
            have hlc := lt_of_block HBc.out
            go_wp2_with fail
            go_ret
            exact ⟨rfl, HBW.out⟩

set_option maxHeartbeats 2000000 in
set_option maxRecDepth 100000 in
theorem store_any (A B C : Nat) (warm : Bool) (w : World) : Calls Tryd.prog 40 #[wv A, wv B, wv C, .bool warm] w fun e w' => e = .returned (.tuple #[.int .u64 (storeN (A % M256) (B % M256) (C % M256) warm).1, .int .i64 (storeN (A % M256) (B % M256) (C % M256) warm).2]) ∧ Below w.heap.size w w' := by
  obtain ⟨a0, a1, a2, a3, hA⟩ := wv_form A
  obtain ⟨b0, b1, b2, b3, hB⟩ := wv_form B
  obtain ⟨c0, c1, c2, c3, hC⟩ := wv_form C
  have h1 := fun W => storing_any A B C W
  have h2 := fun W => refunded_any A B C W
  have hk : costN (A % M256) (B % M256) (C % M256) ≤ 20000 := by unfold costN; (repeat' split) <;> omega
  rw [store_split]
  rw [hA, hB, hC] at h1 h2 ⊢
  generalize costN (A % M256) (B % M256) (C % M256) = k at *
  generalize backN (A % M256) (B % M256) (C % M256) = r at *
  have e1 : IntKind.u64.wrap ((k : Int) + 2100) = (k : Int) + 2100 := by rw [IntKind.wrap_u64]; omega
  have H1 := hideP h1
  have H2 := hideP h2
  clear h1 h2 hk hA hB hC
  cases warm
  · go_enter Tryd.func40, Tryd.ntmps40
    go_wp2_with fail
    refine at_world_q (fun W0 hW0 => ?_)
    obtain ⟨HBa, HBb, HBc, HBW⟩ := box3 hW0
    clear hW0
    replace HBW := hideP HBW
    replace HBa := hideP HBa
    replace HBb := hideP HBb
    replace HBc := hideP HBc
    refine (H1.out _).mono ?_
    rintro e V1 ⟨rfl, hb⟩
    replace HBa := hideP ((hb.block _ (lt_of_block HBa.out)).trans HBa.out)
    replace HBb := hideP ((hb.block _ (lt_of_block HBb.out)).trans HBb.out)
    replace HBc := hideP ((hb.block _ (lt_of_block HBc.out)).trans HBc.out)
    replace HBW := hideP (HBW.out.trans (hb.mono HBW.out.size))
    clear hb
    obtain ⟨ca0, ca1, ca2, ca3⟩ := cells4 HBa.out
    have hla := lt_of_block HBa.out
    obtain ⟨cb0, cb1, cb2, cb3⟩ := cells4 HBb.out
    have hlb := lt_of_block HBb.out
    obtain ⟨cc0, cc1, cc2, cc3⟩ := cells4 HBc.out
    have hlc := lt_of_block HBc.out
    go_wp2_with fail
    clear ca0 ca1 ca2 ca3 hla
    clear cb0 cb1 cb2 cb3 hlb
    clear cc0 cc1 cc2 cc3 hlc
    refine (H2.out _).mono ?_
    rintro e V2 ⟨rfl, hb⟩
    replace HBa := hideP ((hb.block _ (lt_of_block HBa.out)).trans HBa.out)
    replace HBb := hideP ((hb.block _ (lt_of_block HBb.out)).trans HBb.out)
    replace HBc := hideP ((hb.block _ (lt_of_block HBc.out)).trans HBc.out)
    replace HBW := hideP (HBW.out.trans (hb.mono HBW.out.size))
    clear hb
    go_wp2_with fail
    go_ret2
    exact ⟨rfl, HBW.out⟩
  · go_enter Tryd.func40, Tryd.ntmps40
    go_wp2_with fail
    refine at_world_q (fun W0 hW0 => ?_)
    obtain ⟨HBa, HBb, HBc, HBW⟩ := box3 hW0
    clear hW0
    replace HBW := hideP HBW
    replace HBa := hideP HBa
    replace HBb := hideP HBb
    replace HBc := hideP HBc
    refine (H1.out _).mono ?_
    rintro e V1 ⟨rfl, hb⟩
    replace HBa := hideP ((hb.block _ (lt_of_block HBa.out)).trans HBa.out)
    replace HBb := hideP ((hb.block _ (lt_of_block HBb.out)).trans HBb.out)
    replace HBc := hideP ((hb.block _ (lt_of_block HBc.out)).trans HBc.out)
    replace HBW := hideP (HBW.out.trans (hb.mono HBW.out.size))
    clear hb
    obtain ⟨ca0, ca1, ca2, ca3⟩ := cells4 HBa.out
    have hla := lt_of_block HBa.out
    obtain ⟨cb0, cb1, cb2, cb3⟩ := cells4 HBb.out
    have hlb := lt_of_block HBb.out
    obtain ⟨cc0, cc1, cc2, cc3⟩ := cells4 HBc.out
    have hlc := lt_of_block HBc.out
    go_wp2_with fail
    clear ca0 ca1 ca2 ca3 hla
    clear cb0 cb1 cb2 cb3 hlb
    clear cc0 cc1 cc2 cc3 hlc
    refine (H2.out _).mono ?_
    rintro e V2 ⟨rfl, hb⟩
    replace HBa := hideP ((hb.block _ (lt_of_block HBa.out)).trans HBa.out)
    replace HBb := hideP ((hb.block _ (lt_of_block HBb.out)).trans HBb.out)
    replace HBc := hideP ((hb.block _ (lt_of_block HBc.out)).trans HBc.out)
    replace HBW := hideP (HBW.out.trans (hb.mono HBW.out.size))
    clear hb
    go_wp2_with fail
    go_ret2
    exact ⟨rfl, HBW.out⟩

end Go.Proofs.YtaeadndihchbnaaDoor
