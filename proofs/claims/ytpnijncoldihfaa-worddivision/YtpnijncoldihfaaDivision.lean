/-
  A dividend is the divisor times the quotient and the rest: the walk of the law.
-/
import Derived.Test.YtpnijncoldihfaaSNum
import Derived.Test.YtpnijncoldihfaaFloat
import Derived.Test.YtpnijncoldihfaaAwake
import Derived.Test.YtpnijncoldihfaaEqW
namespace Go.Proofs.Ytpnijncoldihfaa
open Go.RowKit Go.Shelf

theorem wpOp_stepL {P : Program} {l : List Oper} {Q : Exit → Act → World → Prop} {i : Nat} {o : Oper} {K : Act → World → Prop} {a : Act} {w : World} (ho : l[i]? = some o)
    (h : ∀ K' : Act → World → Prop, (∀ a w, K a w → K' a w) → if Region.wanted o (yielded l.toArray a.tmps) = true then Oper.wp P o a w K' Q else K' (a.put o.dst undef) w) : wpOp P l.toArray Q i K a w :=
  wpOp_step (by simpa using ho) h

theorem below_any (X : Nat) (w : World) : Calls Try.prog 82 #[wv X] w fun e w' => e = .returned (.bool (negB X)) ∧ Below w.heap.size w w' := by
  obtain ⟨x0, x1, x2, x3, h0, h1, h2, h3, eX, hX⟩ := wv_limbs X
  have hn : negB X = ((x3 : Int) / 9223372036854775808 == 1) := by
    unfold negB
    rw [eX, Bool.eq_iff_iff]
    simp only [decide_eq_true_eq, beq_iff_eq]
    rw [top_iff h0 h1 h2]
    omega
  rw [hX, hn]
  clear hX hn eX h0 h1 h2 h3
  go_enter Try.func82, Try.ntmps82
  go_wp2
  go_ret
  refine ⟨rfl, ?_⟩
  repeat first | exact Below.refl _ _ | apply Below.drew | (refine Below.alloc ?_ (by simp <;> omega) _) | (refine Below.setCell ?_ (by simp <;> omega) _)

/-- Words are equal just if their numbers are. -/
theorem eq_wv (X Y : Nat) (W : World) : (Op.equalIn 10000 24 (wv X) (wv Y)).run Try.prog W = .ok (decide (X % M256 = Y % M256)) W := by
  obtain ⟨x0, x1, x2, x3, hx0, hx1, hx2, hx3, eX, hX⟩ := wv_limbs X
  obtain ⟨y0, y1, y2, y3, hy0, hy1, hy2, hy3, eY, hY⟩ := wv_limbs Y
  rw [hX, hY, eq_words]
  congr 1
  rw [Bool.eq_iff_iff]
  simp only [Bool.and_eq_true, beq_iff_eq, decide_eq_true_eq]
  constructor
  · rintro ⟨a, b, c, d⟩
    rw [eX, eY, Int.ofNat.inj a, Int.ofNat.inj b, Int.ofNat.inj c, Int.ofNat.inj d]
  · intro h
    rw [eX, eY] at h
    unfold num at h
    omega

theorem div_back {X Y : Nat} (h : Y % M256 ≠ 0) : wv (X % M256 / (Y % M256) * Y + restN (X % M256) (Y % M256)) = wv X := by
  unfold restN
  rw [if_neg h]
  apply wv_congr
  have hd := Nat.div_add_mod (X % M256) (Y % M256)
  rw [← Nat.mod_add_mod, ← Nat.mul_mod_mod, Nat.mod_add_mod, Nat.mul_comm, hd, Nat.mod_mod]
theorem div_rest {X Y : Nat} (h : Y % M256 ≠ 0) : cmpI (restN (X % M256) (Y % M256) % M256) (Y % M256) = -1 := by
  unfold restN
  rw [if_neg h]
  have h1 := Nat.mod_lt (X % M256) (show 0 < Y % M256 by omega)
  have h2 := Nat.mod_lt Y M256_pos
  rw [Nat.mod_eq_of_lt (by omega)]
  exact cmpI_lt h1
theorem div_le {X Y : Nat} : cmpI (X % M256 / (Y % M256) % M256) (X % M256) ≤ 0 := by
  have h1 : X % M256 / (Y % M256) ≤ X % M256 := Nat.div_le_self _ _
  have h2 := Nat.mod_lt X M256_pos
  rw [Nat.mod_eq_of_lt (by omega)]
  unfold cmpI
  split
  · omega
  · split <;> omega

theorem zero_divides {X Y : Nat} (h : Y % M256 = 0) : wv (X % M256 / (Y % M256)) = wv 0 ∧ wv (restN (X % M256) (Y % M256)) = wv 0 ∧ wv (signedN (negB X != negB Y) (sizeN X % M256 / (sizeN Y % M256))) = wv 0 ∧ wv (signedN (negB X) (restN (sizeN X % M256) (sizeN Y % M256))) = wv 0 := by
  have hs : sizeN Y % M256 = 0 := by
    unfold sizeN negB negN
    rw [h, if_neg (by decide)]
    exact h
  have h0 : ∀ b, wv (signedN b 0) = wv 0 := fun b => by
    unfold signedN
    cases b
    · rfl
    · exact wv_congr (by decide)
  unfold restN
  rw [h, hs, if_pos rfl, if_pos rfl, Nat.div_zero, Nat.div_zero]
  exact ⟨rfl, rfl, h0 _, h0 _⟩

set_option maxHeartbeats 8000000 in
set_option maxRecDepth 100000 in
theorem division_calls (X Y : Nat) (w : World) : Calls Try.prog 10 #[wv X, wv Y] w fun e w' => e = .returned (.bool true) ∧ Below w.heap.size w w' := by
  obtain ⟨x0, x1, x2, x3, hx⟩ := wv_form X
  obtain ⟨y0, y1, y2, y3, hy⟩ := wv_form Y
  obtain ⟨q0, q1, q2, q3, hq⟩ := wv_form (X % M256 / (Y % M256))
  obtain ⟨r0, r1, r2, r3, hr⟩ := wv_form (restN (X % M256) (Y % M256))
  obtain ⟨s0, s1, s2, s3, hs⟩ := wv_form (signedN (negB X != negB Y) (sizeN X % M256 / (sizeN Y % M256)))
  obtain ⟨t0, t1, t2, t3, ht⟩ := wv_form (signedN (negB X) (restN (sizeN X % M256) (sizeN Y % M256)))
  have k1 := fun W => div_any X Y W
  simp only [hx, hy, hq] at k1
  have Ck1 := hideP k1
  clear k1
  have k2 := fun W => mod_any X Y W
  simp only [hx, hy, hr] at k2
  have Ck2 := hideP k2
  clear k2
  have k3 := fun W => sdiv_any X Y W
  simp only [hx, hy, hs] at k3
  have Ck3 := hideP k3
  clear k3
  have k4 := fun W => smod_any X Y W
  simp only [hx, hy, ht] at k4
  have Ck4 := hideP k4
  clear k4
  have CAW := hideP (fun W => awake_any W)
  have HF := hideP (⟨hx, hy, hq, hr, hs, ht⟩ : _ ∧ _ ∧ _ ∧ _ ∧ _ ∧ _)
  simp only [hx, hy]
  clear hx hy hq hr hs ht
  go_enter Try.func10, Try.ntmps10
  go_wp2_with fail
  refine (CAW.out _).mono ?_
  rintro e W0 ⟨rfl, hb⟩
  have HBx : Hid (W0.heap[w.heap.size]? = some (.cells #[.int .u64 x0, .int .u64 x1, .int .u64 x2, .int .u64 x3] 24 (0, 0))) := (kept4 hb ((heap_old _ _ (by simp <;> omega)).trans (heap_new _ _))).1
  have HBy : Hid (W0.heap[w.heap.size + 1]? = some (.cells #[.int .u64 y0, .int .u64 y1, .int .u64 y2, .int .u64 y3] 24 (0, 0))) := (kept4 hb (heap_new1 _ _ _)).1
  have HBW : Hid (Below w.heap.size w W0) := (((Below.refl _ w).alloc (Nat.le_refl _) _).alloc (by simp <;> omega) _).trans (hb.mono (by simp <;> omega))
  clear hb
  go_wp2_with fail
  obtain ⟨cx0, cx1, cx2, cx3⟩ := cells4 HBx.out
  have hlx := (Array.getElem?_eq_some_iff.1 HBx.out).1
  obtain ⟨cy0, cy1, cy2, cy3⟩ := cells4 HBy.out
  have hly := (Array.getElem?_eq_some_iff.1 HBy.out).1
  refine wp_region_heldS (S := fun V => Below W0.heap.size W0 V) (by kernel_rfl) (Below.refl _ _).drew (fun hS => ?_)
  refine wpAnyH_takeL (i := 0) (v := ?_) rfl (by kernel_rfl) (by kernel_rfl) (by kernel_rfl) (fun _ _ _ h => h) (Or.inl ⟨by kernel_rfl, ?_⟩) hS ?_
  rotate_left
  · intro V hV
    have k0 := (hV.cell (p := ⟨w.heap.size, 0, none⟩) hlx).trans cx0
    have k1 := (hV.cell (p := ⟨w.heap.size, 1, none⟩) hlx).trans cx1
    have k2 := (hV.cell (p := ⟨w.heap.size, 2, none⟩) hlx).trans cx2
    have k3 := (hV.cell (p := ⟨w.heap.size, 3, none⟩) hlx).trans cx3
    go_simp
    (try with_reducible rfl)
  simp only [put_list, List.set_cons_succ, List.set_cons_zero]
  refine wpAnyH_takeL (i := 1) (v := ?_) rfl (by kernel_rfl) (by kernel_rfl) (by kernel_rfl) (fun _ _ _ h => h) (Or.inl ⟨by kernel_rfl, ?_⟩) hS ?_
  rotate_left
  · intro V hV
    have k0 := (hV.cell (p := ⟨w.heap.size + 1, 0, none⟩) hly).trans cy0
    have k1 := (hV.cell (p := ⟨w.heap.size + 1, 1, none⟩) hly).trans cy1
    have k2 := (hV.cell (p := ⟨w.heap.size + 1, 2, none⟩) hly).trans cy2
    have k3 := (hV.cell (p := ⟨w.heap.size + 1, 3, none⟩) hly).trans cy3
    go_simp
    (try with_reducible rfl)
  simp only [put_list, List.set_cons_succ, List.set_cons_zero]
  refine wpAnyH_takeL (i := 3) (v := ?_) rfl (by kernel_rfl) (by kernel_rfl) (by kernel_rfl) (fun _ _ _ h => h) (Or.inl ⟨by kernel_rfl, ?_⟩) hS ?_
  rotate_left
  · intro V hV
    have k0 := (hV.cell (p := ⟨w.heap.size, 0, none⟩) hlx).trans cx0
    have k1 := (hV.cell (p := ⟨w.heap.size, 1, none⟩) hlx).trans cx1
    have k2 := (hV.cell (p := ⟨w.heap.size, 2, none⟩) hlx).trans cx2
    have k3 := (hV.cell (p := ⟨w.heap.size, 3, none⟩) hlx).trans cx3
    go_simp
    (try with_reducible rfl)
  simp only [put_list, List.set_cons_succ, List.set_cons_zero]
  refine wpAnyH_takeL (i := 4) (v := ?_) rfl (by kernel_rfl) (by kernel_rfl) (by kernel_rfl) (fun _ _ _ h => h) (Or.inl ⟨by kernel_rfl, ?_⟩) hS ?_
  rotate_left
  · intro V hV
    have k0 := (hV.cell (p := ⟨w.heap.size + 1, 0, none⟩) hly).trans cy0
    have k1 := (hV.cell (p := ⟨w.heap.size + 1, 1, none⟩) hly).trans cy1
    have k2 := (hV.cell (p := ⟨w.heap.size + 1, 2, none⟩) hly).trans cy2
    have k3 := (hV.cell (p := ⟨w.heap.size + 1, 3, none⟩) hly).trans cy3
    go_simp
    (try with_reducible rfl)
  simp only [put_list, List.set_cons_succ, List.set_cons_zero]
  refine wpAnyH_takeL (i := 6) (v := ?_) rfl (by kernel_rfl) (by kernel_rfl) (by kernel_rfl) (fun _ _ _ h => h) (Or.inl ⟨by kernel_rfl, ?_⟩) hS ?_
  rotate_left
  · intro V hV
    have k0 := (hV.cell (p := ⟨w.heap.size, 0, none⟩) hlx).trans cx0
    have k1 := (hV.cell (p := ⟨w.heap.size, 1, none⟩) hlx).trans cx1
    have k2 := (hV.cell (p := ⟨w.heap.size, 2, none⟩) hlx).trans cx2
    have k3 := (hV.cell (p := ⟨w.heap.size, 3, none⟩) hlx).trans cx3
    go_simp
    (try with_reducible rfl)
  simp only [put_list, List.set_cons_succ, List.set_cons_zero]
  refine wpAnyH_takeL (i := 7) (v := ?_) rfl (by kernel_rfl) (by kernel_rfl) (by kernel_rfl) (fun _ _ _ h => h) (Or.inl ⟨by kernel_rfl, ?_⟩) hS ?_
  rotate_left
  · intro V hV
    have k0 := (hV.cell (p := ⟨w.heap.size + 1, 0, none⟩) hly).trans cy0
    have k1 := (hV.cell (p := ⟨w.heap.size + 1, 1, none⟩) hly).trans cy1
    have k2 := (hV.cell (p := ⟨w.heap.size + 1, 2, none⟩) hly).trans cy2
    have k3 := (hV.cell (p := ⟨w.heap.size + 1, 3, none⟩) hly).trans cy3
    go_simp
    (try with_reducible rfl)
  simp only [put_list, List.set_cons_succ, List.set_cons_zero]
  refine wpAnyH_takeL (i := 9) (v := ?_) rfl (by kernel_rfl) (by kernel_rfl) (by kernel_rfl) (fun _ _ _ h => h) (Or.inl ⟨by kernel_rfl, ?_⟩) hS ?_
  rotate_left
  · intro V hV
    have k0 := (hV.cell (p := ⟨w.heap.size, 0, none⟩) hlx).trans cx0
    have k1 := (hV.cell (p := ⟨w.heap.size, 1, none⟩) hlx).trans cx1
    have k2 := (hV.cell (p := ⟨w.heap.size, 2, none⟩) hlx).trans cx2
    have k3 := (hV.cell (p := ⟨w.heap.size, 3, none⟩) hlx).trans cx3
    go_simp
    (try with_reducible rfl)
  simp only [put_list, List.set_cons_succ, List.set_cons_zero]
  refine wpAnyH_takeL (i := 10) (v := ?_) rfl (by kernel_rfl) (by kernel_rfl) (by kernel_rfl) (fun _ _ _ h => h) (Or.inl ⟨by kernel_rfl, ?_⟩) hS ?_
  rotate_left
  · intro V hV
    have k0 := (hV.cell (p := ⟨w.heap.size + 1, 0, none⟩) hly).trans cy0
    have k1 := (hV.cell (p := ⟨w.heap.size + 1, 1, none⟩) hly).trans cy1
    have k2 := (hV.cell (p := ⟨w.heap.size + 1, 2, none⟩) hly).trans cy2
    have k3 := (hV.cell (p := ⟨w.heap.size + 1, 3, none⟩) hly).trans cy3
    go_simp
    (try with_reducible rfl)
  simp only [put_list, List.set_cons_succ, List.set_cons_zero]
  refine region44 (r := 4) 13 16 19 22 5 6 7 8 (.agg #[.int .u64 q0, .int .u64 q1, .int .u64 q2, .int .u64 q3]) (.agg #[.int .u64 r0, .int .u64 r1, .int .u64 r2, .int .u64 r3]) (.agg #[.int .u64 s0, .int .u64 s1, .int .u64 s2, .int .u64 s3]) (.agg #[.int .u64 t0, .int .u64 t1, .int .u64 t2, .int .u64 t3]) (by kernel_rfl) (by decide) (by kernel_rfl) hS ?_ ?_ ?_ ?_ ?_ ?_ ?_ ?_ ?_
  · intro T w2 K hT hK
    have t1 := hT 11 (by decide)
    have t2 := hT 12 (by decide)
    simp only [List.getElem?_cons_succ, List.getElem?_cons_zero] at t1 t2
    refine wpOp_stepL rfl (fun K' hK' => ?_)
    have HK' := hideP hK'
    have HK := hideP hK
    clear hK hK' hT
    go_simp
    refine (Ck1.out _).mono ?_
    rintro e w3 ⟨rfl, hb⟩
    exact HK'.out _ _ (HK.out w3 hb)
  · intro T w2 K hT hK
    have t1 := hT 14 (by decide)
    have t2 := hT 15 (by decide)
    simp only [List.getElem?_cons_succ, List.getElem?_cons_zero] at t1 t2
    refine wpOp_stepL rfl (fun K' hK' => ?_)
    have HK' := hideP hK'
    have HK := hideP hK
    clear hK hK' hT
    go_simp
    refine (Ck2.out _).mono ?_
    rintro e w3 ⟨rfl, hb⟩
    exact HK'.out _ _ (HK.out w3 hb)
  · intro T w2 K hT hK
    have t1 := hT 17 (by decide)
    have t2 := hT 18 (by decide)
    simp only [List.getElem?_cons_succ, List.getElem?_cons_zero] at t1 t2
    refine wpOp_stepL rfl (fun K' hK' => ?_)
    have HK' := hideP hK'
    have HK := hideP hK
    clear hK hK' hT
    go_simp
    refine (Ck3.out _).mono ?_
    rintro e w3 ⟨rfl, hb⟩
    exact HK'.out _ _ (HK.out w3 hb)
  · intro T w2 K hT hK
    have t1 := hT 20 (by decide)
    have t2 := hT 21 (by decide)
    simp only [List.getElem?_cons_succ, List.getElem?_cons_zero] at t1 t2
    refine wpOp_stepL rfl (fun K' hK' => ?_)
    have HK' := hideP hK'
    have HK := hideP hK
    clear hK hK' hT
    go_simp
    refine (Ck4.out _).mono ?_
    rintro e w3 ⟨rfl, hb⟩
    exact HK'.out _ _ (HK.out w3 hb)
  · intro T w2 K hK
    refine wpOp_stepL rfl (fun K' hK' => ?_)
    have HK' := hideP hK'
    have HK := hideP hK
    clear hK hK'
    go_simp
    exact HK'.out _ _ HK.out
  · intro T w2 K hK
    refine wpOp_stepL rfl (fun K' hK' => ?_)
    have HK' := hideP hK'
    have HK := hideP hK
    clear hK hK'
    go_simp
    exact HK'.out _ _ HK.out
  · intro T w2 K hK
    refine wpOp_stepL rfl (fun K' hK' => ?_)
    have HK' := hideP hK'
    have HK := hideP hK
    clear hK hK'
    go_simp
    exact HK'.out _ _ HK.out
  · intro T w2 K hK
    refine wpOp_stepL rfl (fun K' hK' => ?_)
    have HK' := hideP hK'
    have HK := hideP hK
    clear hK hK'
    go_simp
    exact HK'.out _ _ HK.out
  · intro w2 b1 b2 b3 b4 hS l1 l2 l3 l4 h1 h2 h3 h4 n12 n13 n14 n23 n24 n34
    simp only [List.set_cons_succ, List.set_cons_zero]
    obtain ⟨e0, e1, e2, e3⟩ := cells4 h1
    have fa : ∀ o, w2.frozen? ⟨b1, o, none⟩ = false := fun o => blk_free h1
    refine wpAnyH_ready (rs := [16]) (by kernel_rfl) (by simp) (AllReadyH.cons rfl (fun K hK => ?_) AllReadyH.nil)
    go_simp
    have g1 := stored4 (z0 := .int .u64 q0) (z1 := .int .u64 q1) (z2 := .int .u64 q2) (z3 := .int .u64 q3) h1
    have hSB := below_stored4 (b := b1) (z0 := .int .u64 q0) (z1 := .int .u64 q1) (z2 := .int .u64 q2) (z3 := .int .u64 q3) hS l1
    replace h2 := (other4 (b := b1) (c := b2) (z0 := .int .u64 q0) (z1 := .int .u64 q1) (z2 := .int .u64 q2) (z3 := .int .u64 q3) (Ne.symm n12)).trans h2
    replace h3 := (other4 (b := b1) (c := b3) (z0 := .int .u64 q0) (z1 := .int .u64 q1) (z2 := .int .u64 q2) (z3 := .int .u64 q3) (Ne.symm n13)).trans h3
    replace h4 := (other4 (b := b1) (c := b4) (z0 := .int .u64 q0) (z1 := .int .u64 q1) (z2 := .int .u64 q2) (z3 := .int .u64 q3) (Ne.symm n14)).trans h4
    clear h1 e0 e1 e2 e3 fa
    generalize ((((w2.setCell ⟨b1, 0, none⟩ (.int .u64 q0)).setCell ⟨b1, 1, none⟩ (.int .u64 q1)).setCell ⟨b1, 2, none⟩ (.int .u64 q2)).setCell ⟨b1, 3, none⟩ (.int .u64 q3)) = w3 at g1 h2 h3 h4 hSB ⊢
    refine hK.out _ _ hSB (fun hS => ?_)
    clear hK K hSB
    obtain ⟨e0, e1, e2, e3⟩ := cells4 h2
    have fa : ∀ o, w3.frozen? ⟨b2, o, none⟩ = false := fun o => blk_free h2
    refine wpAnyH_ready (rs := [17]) (by kernel_rfl) (by simp) (AllReadyH.cons rfl (fun K hK => ?_) AllReadyH.nil)
    go_simp
    have g2 := stored4 (z0 := .int .u64 r0) (z1 := .int .u64 r1) (z2 := .int .u64 r2) (z3 := .int .u64 r3) h2
    have hSB := below_stored4 (b := b2) (z0 := .int .u64 r0) (z1 := .int .u64 r1) (z2 := .int .u64 r2) (z3 := .int .u64 r3) hS l2
    replace g1 := (other4 (b := b2) (c := b1) (z0 := .int .u64 r0) (z1 := .int .u64 r1) (z2 := .int .u64 r2) (z3 := .int .u64 r3) n12).trans g1
    replace h3 := (other4 (b := b2) (c := b3) (z0 := .int .u64 r0) (z1 := .int .u64 r1) (z2 := .int .u64 r2) (z3 := .int .u64 r3) (Ne.symm n23)).trans h3
    replace h4 := (other4 (b := b2) (c := b4) (z0 := .int .u64 r0) (z1 := .int .u64 r1) (z2 := .int .u64 r2) (z3 := .int .u64 r3) (Ne.symm n24)).trans h4
    clear h2 e0 e1 e2 e3 fa
    generalize ((((w3.setCell ⟨b2, 0, none⟩ (.int .u64 r0)).setCell ⟨b2, 1, none⟩ (.int .u64 r1)).setCell ⟨b2, 2, none⟩ (.int .u64 r2)).setCell ⟨b2, 3, none⟩ (.int .u64 r3)) = w4 at g1 g2 h3 h4 hSB ⊢
    refine hK.out _ _ hSB (fun hS => ?_)
    clear hK K hSB
    obtain ⟨e0, e1, e2, e3⟩ := cells4 h3
    have fa : ∀ o, w4.frozen? ⟨b3, o, none⟩ = false := fun o => blk_free h3
    refine wpAnyH_ready (rs := [18]) (by kernel_rfl) (by simp) (AllReadyH.cons rfl (fun K hK => ?_) AllReadyH.nil)
    go_simp
    have g3 := stored4 (z0 := .int .u64 s0) (z1 := .int .u64 s1) (z2 := .int .u64 s2) (z3 := .int .u64 s3) h3
    have hSB := below_stored4 (b := b3) (z0 := .int .u64 s0) (z1 := .int .u64 s1) (z2 := .int .u64 s2) (z3 := .int .u64 s3) hS l3
    replace g1 := (other4 (b := b3) (c := b1) (z0 := .int .u64 s0) (z1 := .int .u64 s1) (z2 := .int .u64 s2) (z3 := .int .u64 s3) n13).trans g1
    replace g2 := (other4 (b := b3) (c := b2) (z0 := .int .u64 s0) (z1 := .int .u64 s1) (z2 := .int .u64 s2) (z3 := .int .u64 s3) n23).trans g2
    replace h4 := (other4 (b := b3) (c := b4) (z0 := .int .u64 s0) (z1 := .int .u64 s1) (z2 := .int .u64 s2) (z3 := .int .u64 s3) (Ne.symm n34)).trans h4
    clear h3 e0 e1 e2 e3 fa
    generalize ((((w4.setCell ⟨b3, 0, none⟩ (.int .u64 s0)).setCell ⟨b3, 1, none⟩ (.int .u64 s1)).setCell ⟨b3, 2, none⟩ (.int .u64 s2)).setCell ⟨b3, 3, none⟩ (.int .u64 s3)) = w5 at g1 g2 g3 h4 hSB ⊢
    refine hK.out _ _ hSB (fun hS => ?_)
    clear hK K hSB
    obtain ⟨e0, e1, e2, e3⟩ := cells4 h4
    have fa : ∀ o, w5.frozen? ⟨b4, o, none⟩ = false := fun o => blk_free h4
    refine wpAnyH_ready (rs := [19]) (by kernel_rfl) (by simp) (AllReadyH.cons rfl (fun K hK => ?_) AllReadyH.nil)
    go_simp
    have g4 := stored4 (z0 := .int .u64 t0) (z1 := .int .u64 t1) (z2 := .int .u64 t2) (z3 := .int .u64 t3) h4
    have hSB := below_stored4 (b := b4) (z0 := .int .u64 t0) (z1 := .int .u64 t1) (z2 := .int .u64 t2) (z3 := .int .u64 t3) hS l4
    replace g1 := (other4 (b := b4) (c := b1) (z0 := .int .u64 t0) (z1 := .int .u64 t1) (z2 := .int .u64 t2) (z3 := .int .u64 t3) n14).trans g1
    replace g2 := (other4 (b := b4) (c := b2) (z0 := .int .u64 t0) (z1 := .int .u64 t1) (z2 := .int .u64 t2) (z3 := .int .u64 t3) n24).trans g2
    replace g3 := (other4 (b := b4) (c := b3) (z0 := .int .u64 t0) (z1 := .int .u64 t1) (z2 := .int .u64 t2) (z3 := .int .u64 t3) n34).trans g3
    clear h4 e0 e1 e2 e3 fa
    generalize ((((w5.setCell ⟨b4, 0, none⟩ (.int .u64 t0)).setCell ⟨b4, 1, none⟩ (.int .u64 t1)).setCell ⟨b4, 2, none⟩ (.int .u64 t2)).setCell ⟨b4, 3, none⟩ (.int .u64 t3)) = w6 at g1 g2 g3 g4 hSB ⊢
    refine hK.out _ _ hSB (fun hS => ?_)
    clear hK K hSB
    refine wpAnyH_done (by kernel_rfl) ?_ _
    clear cx0 cx1 cx2 cx3 hlx
    clear cy0 cy1 cy2 cy3 hly
    replace HBx : Hid (w6.heap[w.heap.size]? = some (.cells #[.int .u64 x0, .int .u64 x1, .int .u64 x2, .int .u64 x3] 24 (0, 0))) := (hS.block _ (Array.getElem?_eq_some_iff.1 HBx.out).1).trans HBx.out
    replace HBy : Hid (w6.heap[w.heap.size + 1]? = some (.cells #[.int .u64 y0, .int .u64 y1, .int .u64 y2, .int .u64 y3] 24 (0, 0))) := (hS.block _ (Array.getElem?_eq_some_iff.1 HBy.out).1).trans HBy.out
    replace HBW : Hid (Below w.heap.size w w6) := HBW.out.trans (hS.mono HBW.out.size)
    have HBq := hideP g1
    have HBr := hideP g2
    have HBs := hideP g3
    have HBt := hideP g4
    clear g1 g2 g3 g4 hS l1 l2 l3 l4 n12 n13 n14 n23 n24 n34
    obtain ⟨hx, hy, hq, hr, hs, ht⟩ := HF.out
    by_cases h0 : Y % M256 = 0
    · obtain ⟨z1, z2, z3, z4⟩ := zero_divides (X := X) h0
      have hz : wv 0 = .agg #[.int .u64 0, .int .u64 0, .int .u64 0, .int .u64 0] := rfl
      have hy0 : wv Y = wv 0 := wv_congr (by rw [h0]; rfl)
      rw [hq, hz] at z1
      rw [hr, hz] at z2
      rw [hs, hz] at z3
      rw [ht, hz] at z4
      rw [hy, hz] at hy0
      simp only [Value.agg.injEq, Array.mk.injEq, List.cons.injEq, Value.int.injEq, true_and, and_true] at z1 z2 z3 z4 hy0
      obtain ⟨a0, a1, a2, a3⟩ := z1
      obtain ⟨a4, a5, a6, a7⟩ := z2
      obtain ⟨a8, a9, a10, a11⟩ := z3
      obtain ⟨a12, a13, a14, a15⟩ := z4
      obtain ⟨a16, a17, a18, a19⟩ := hy0
      subst a0 a1 a2 a3 a4 a5 a6 a7 a8 a9 a10 a11 a12 a13 a14 a15 a16 a17 a18 a19
      have heq : ∀ W : World, (Op.equalIn 10000 24 (.agg #[.int .u64 0, .int .u64 0, .int .u64 0, .int .u64 0]) (.agg #[.int .u64 0, .int .u64 0, .int .u64 0, .int .u64 0])).run Try.prog W = .ok true W := fun W => eq_wv 0 0 W
      clear hx hy hq hr hs ht h0 hz Ck1 Ck2 Ck3 Ck4 CAW HF
      obtain ⟨cy0, cy1, cy2, cy3⟩ := cells4 HBy.out
      have hly := (Array.getElem?_eq_some_iff.1 HBy.out).1
      obtain ⟨cq0, cq1, cq2, cq3⟩ := cells4 HBq.out
      have hlq := (Array.getElem?_eq_some_iff.1 HBq.out).1
      obtain ⟨cr0, cr1, cr2, cr3⟩ := cells4 HBr.out
      have hlr := (Array.getElem?_eq_some_iff.1 HBr.out).1
      obtain ⟨cs0, cs1, cs2, cs3⟩ := cells4 HBs.out
      have hls := (Array.getElem?_eq_some_iff.1 HBs.out).1
      obtain ⟨ct0, ct1, ct2, ct3⟩ := cells4 HBt.out
      have hlt := (Array.getElem?_eq_some_iff.1 HBt.out).1
      go_wp2
      go_ret
      exact ⟨rfl, HBW.out⟩
    · have hsz := size_zero h0
      have heq0 := fun W => eq_wv Y 0 W
      rw [Nat.zero_mod] at heq0
      simp only [decide_eq_false h0] at heq0
      have hz : wv 0 = .agg #[.int .u64 0, .int .u64 0, .int .u64 0, .int .u64 0] := rfl
      simp only [hy, hz] at heq0
      obtain ⟨m0, m1, m2, m3, hm⟩ := wv_form ((X % M256 / (Y % M256)) * Y)
      obtain ⟨o0, o1, o2, o3, ho⟩ := wv_form ((signedN (negB X != negB Y) (sizeN X % M256 / (sizeN Y % M256))) * Y)
      have k5 := fun W => mul_any (X % M256 / (Y % M256)) Y W
      simp only [hq, hy, hm] at k5
      have Ck5 := hideP k5
      clear k5
      have k6 := fun W => add_any W ((X % M256 / (Y % M256)) * Y) (restN (X % M256) (Y % M256))
      rw [div_back h0] at k6
      simp only [hm, hr, hx] at k6
      have Ck6 := hideP k6
      clear k6
      have k7 := fun W => cmp_any (restN (X % M256) (Y % M256)) Y W
      simp only [div_rest h0] at k7
      simp only [hr, hy] at k7
      have Ck7 := hideP k7
      clear k7
      have k8 := fun W => cmp_any (X % M256 / (Y % M256)) X W
      simp only [hq, hx] at k8
      have Ck8 := hideP k8
      clear k8
      have hle := div_le (X := X) (Y := Y)
      generalize cmpI ((X % M256 / (Y % M256)) % M256) (X % M256) = cq at Ck8 hle
      have k9 := fun W => mul_any (signedN (negB X != negB Y) (sizeN X % M256 / (sizeN Y % M256))) Y W
      simp only [hs, hy, ho] at k9
      have Ck9 := hideP k9
      clear k9
      have k10 := fun W => add_any W ((signedN (negB X != negB Y) (sizeN X % M256 / (sizeN Y % M256))) * Y) (signedN (negB X) (restN (sizeN X % M256) (sizeN Y % M256)))
      rw [sdiv_back hsz] at k10
      simp only [ho, ht, hx] at k10
      have Ck10 := hideP k10
      clear k10
      have k11 := fun W => below_any (signedN (negB X) (restN (sizeN X % M256) (sizeN Y % M256))) W
      simp only [ht] at k11
      have Ck11 := hideP k11
      clear k11
      have k12 := fun W => below_any X W
      simp only [hx] at k12
      have Ck12 := hideP k12
      clear k12
      by_cases ht0 : (signedN (negB X) (restN (sizeN X % M256) (sizeN Y % M256))) % M256 = 0
      · have heqt := fun W => eq_wv (signedN (negB X) (restN (sizeN X % M256) (sizeN Y % M256))) 0 W
        rw [Nat.zero_mod] at heqt
        simp only [ht0, decide_true] at heqt
        simp only [ht, hz] at heqt
        have HEQT := hideP heqt
        clear heqt hx hy hq hr hs ht hm ho hz hsz h0 ht0 Ck1 Ck2 Ck3 Ck4 CAW HF
        obtain ⟨cy0, cy1, cy2, cy3⟩ := cells4 HBy.out
        have hly := (Array.getElem?_eq_some_iff.1 HBy.out).1
        go_wp2_with fail
        clear heq0
        have eqx : ∀ W : World, (Op.equalIn 10000 24 (.agg #[.int .u64 x0, .int .u64 x1, .int .u64 x2, .int .u64 x3]) (.agg #[.int .u64 x0, .int .u64 x1, .int .u64 x2, .int .u64 x3])).run Try.prog W = .ok true W := fun W => by rw [eq_words]; simp
        have eqt := HEQT.out
        clear cy0 cy1 cy2 cy3 hly
        obtain ⟨cx0, cx1, cx2, cx3⟩ := cells4 HBx.out
        have hlx := (Array.getElem?_eq_some_iff.1 HBx.out).1
        obtain ⟨cy0, cy1, cy2, cy3⟩ := cells4 HBy.out
        have hly := (Array.getElem?_eq_some_iff.1 HBy.out).1
        obtain ⟨cq0, cq1, cq2, cq3⟩ := cells4 HBq.out
        have hlq := (Array.getElem?_eq_some_iff.1 HBq.out).1
        obtain ⟨cr0, cr1, cr2, cr3⟩ := cells4 HBr.out
        have hlr := (Array.getElem?_eq_some_iff.1 HBr.out).1
        obtain ⟨cs0, cs1, cs2, cs3⟩ := cells4 HBs.out
        have hls := (Array.getElem?_eq_some_iff.1 HBs.out).1
        obtain ⟨ct0, ct1, ct2, ct3⟩ := cells4 HBt.out
        have hlt := (Array.getElem?_eq_some_iff.1 HBt.out).1
        refine wp_region_heldS (S := fun V => Below w6.heap.size w6 V) (by kernel_rfl) (Below.refl _ _).drew (fun hS => ?_)
        refine wpAnyH_takeL (i := 0) (v := ?_) rfl (by kernel_rfl) (by kernel_rfl) (by kernel_rfl) (fun _ _ _ h => h) (Or.inl ⟨by kernel_rfl, ?_⟩) hS ?_
        rotate_left
        · intro V hV
          have k0 := (hV.cell (p := ⟨b1, 0, none⟩) hlq).trans cq0
          have k1 := (hV.cell (p := ⟨b1, 1, none⟩) hlq).trans cq1
          have k2 := (hV.cell (p := ⟨b1, 2, none⟩) hlq).trans cq2
          have k3 := (hV.cell (p := ⟨b1, 3, none⟩) hlq).trans cq3
          go_simp
          (try with_reducible rfl)
        simp only [put_list, List.set_cons_succ, List.set_cons_zero]
        refine wpAnyH_takeL (i := 1) (v := ?_) rfl (by kernel_rfl) (by kernel_rfl) (by kernel_rfl) (fun _ _ _ h => h) (Or.inl ⟨by kernel_rfl, ?_⟩) hS ?_
        rotate_left
        · intro V hV
          have k0 := (hV.cell (p := ⟨w.heap.size + 1, 0, none⟩) hly).trans cy0
          have k1 := (hV.cell (p := ⟨w.heap.size + 1, 1, none⟩) hly).trans cy1
          have k2 := (hV.cell (p := ⟨w.heap.size + 1, 2, none⟩) hly).trans cy2
          have k3 := (hV.cell (p := ⟨w.heap.size + 1, 3, none⟩) hly).trans cy3
          go_simp
          (try with_reducible rfl)
        simp only [put_list, List.set_cons_succ, List.set_cons_zero]
        refine wpAnyH_takeL (i := 3) (v := ?_) rfl (by kernel_rfl) (by kernel_rfl) (by kernel_rfl) (fun _ _ _ h => h) (Or.inl ⟨by kernel_rfl, ?_⟩) hS ?_
        rotate_left
        · intro V hV
          have k0 := (hV.cell (p := ⟨b2, 0, none⟩) hlr).trans cr0
          have k1 := (hV.cell (p := ⟨b2, 1, none⟩) hlr).trans cr1
          have k2 := (hV.cell (p := ⟨b2, 2, none⟩) hlr).trans cr2
          have k3 := (hV.cell (p := ⟨b2, 3, none⟩) hlr).trans cr3
          go_simp
          (try with_reducible rfl)
        simp only [put_list, List.set_cons_succ, List.set_cons_zero]
        refine wpAnyH_takeL (i := 5) (v := ?_) rfl (by kernel_rfl) (by kernel_rfl) (by kernel_rfl) (fun _ _ _ h => h) (Or.inl ⟨by kernel_rfl, ?_⟩) hS ?_
        rotate_left
        · intro V hV
          have k0 := (hV.cell (p := ⟨w.heap.size, 0, none⟩) hlx).trans cx0
          have k1 := (hV.cell (p := ⟨w.heap.size, 1, none⟩) hlx).trans cx1
          have k2 := (hV.cell (p := ⟨w.heap.size, 2, none⟩) hlx).trans cx2
          have k3 := (hV.cell (p := ⟨w.heap.size, 3, none⟩) hlx).trans cx3
          go_simp
          (try with_reducible rfl)
        simp only [put_list, List.set_cons_succ, List.set_cons_zero]
        refine wpAnyH_ready (rs := [2]) (by kernel_rfl) (by simp) (AllReadyH.cons rfl (fun K hK => ?_) AllReadyH.nil)
        go_simp
        refine (Ck5.out _).mono ?_
        rintro e U1 ⟨rfl, hbc⟩
        refine hK.out _ _ (hS.trans (hbc.mono hS.size)) (fun hS => ?_)
        clear hK K hbc
        refine wpAnyH_ready (rs := [4]) (by kernel_rfl) (by simp) (AllReadyH.cons rfl (fun K hK => ?_) AllReadyH.nil)
        go_simp
        refine (Ck6.out _).mono ?_
        rintro e U2 ⟨rfl, hbc⟩
        refine hK.out _ _ (hS.trans (hbc.mono hS.size)) (fun hS => ?_)
        clear hK K hbc
        refine wpAnyH_takeL (i := 6) (v := ?_) rfl (by kernel_rfl) (by kernel_rfl) (by kernel_rfl) (fun _ _ _ h => h) (Or.inl ⟨by kernel_rfl, ?_⟩) hS ?_
        rotate_left
        · intro V hV
          go_simp
          (try with_reducible rfl)
        simp only [put_list, List.set_cons_succ, List.set_cons_zero]
        refine wpAnyH_takeL (i := 7) (v := ?_) rfl (by kernel_rfl) (by kernel_rfl) (by kernel_rfl) (fun _ _ _ h => h) (Or.inl ⟨by kernel_rfl, ?_⟩) hS ?_
        rotate_left
        · intro V hV
          go_simp
          (try with_reducible rfl)
        simp only [put_list, List.set_cons_succ, List.set_cons_zero]
        refine wpAnyH_takeL (i := 8) (v := ?_) rfl (by kernel_rfl) (by kernel_rfl) (by kernel_rfl) (fun _ _ _ h => h) (Or.inl ⟨by kernel_rfl, ?_⟩) hS ?_
        rotate_left
        · intro V hV
          have k0 := (hV.cell (p := ⟨b2, 0, none⟩) hlr).trans cr0
          have k1 := (hV.cell (p := ⟨b2, 1, none⟩) hlr).trans cr1
          have k2 := (hV.cell (p := ⟨b2, 2, none⟩) hlr).trans cr2
          have k3 := (hV.cell (p := ⟨b2, 3, none⟩) hlr).trans cr3
          go_simp
          (try with_reducible rfl)
        simp only [put_list, List.set_cons_succ, List.set_cons_zero]
        refine wpAnyH_takeL (i := 9) (v := ?_) rfl (by kernel_rfl) (by kernel_rfl) (by kernel_rfl) (fun _ _ _ h => h) (Or.inl ⟨by kernel_rfl, ?_⟩) hS ?_
        rotate_left
        · intro V hV
          have k0 := (hV.cell (p := ⟨w.heap.size + 1, 0, none⟩) hly).trans cy0
          have k1 := (hV.cell (p := ⟨w.heap.size + 1, 1, none⟩) hly).trans cy1
          have k2 := (hV.cell (p := ⟨w.heap.size + 1, 2, none⟩) hly).trans cy2
          have k3 := (hV.cell (p := ⟨w.heap.size + 1, 3, none⟩) hly).trans cy3
          go_simp
          (try with_reducible rfl)
        simp only [put_list, List.set_cons_succ, List.set_cons_zero]
        refine wpAnyH_ready (rs := [10]) (by kernel_rfl) (by simp) (AllReadyH.cons rfl (fun K hK => ?_) AllReadyH.nil)
        go_simp
        refine (Ck7.out _).mono ?_
        rintro e U3 ⟨rfl, hbc⟩
        refine hK.out _ _ (hS.trans (hbc.mono hS.size)) (fun hS => ?_)
        clear hK K hbc
        refine wpAnyH_takeL (i := 11) (v := ?_) rfl (by kernel_rfl) (by kernel_rfl) (by kernel_rfl) (fun _ _ _ h => h) (Or.inl ⟨by kernel_rfl, ?_⟩) hS ?_
        rotate_left
        · intro V hV
          go_simp
          (try with_reducible rfl)
        simp only [put_list, List.set_cons_succ, List.set_cons_zero]
        refine wpAnyH_takeL (i := 12) (v := ?_) rfl (by kernel_rfl) (by kernel_rfl) (by kernel_rfl) (fun _ _ _ h => h) (Or.inl ⟨by kernel_rfl, ?_⟩) hS ?_
        rotate_left
        · intro V hV
          go_simp
          (try with_reducible rfl)
        simp only [put_list, List.set_cons_succ, List.set_cons_zero]
        refine wpAnyH_takeL (i := 13) (v := ?_) rfl (by kernel_rfl) (by kernel_rfl) (by kernel_rfl) (fun _ _ _ h => h) (Or.inl ⟨by kernel_rfl, ?_⟩) hS ?_
        rotate_left
        · intro V hV
          go_simp
          (try with_reducible rfl)
        simp only [put_list, List.set_cons_succ, List.set_cons_zero]
        refine wpAnyH_takeL (i := 14) (v := ?_) rfl (by kernel_rfl) (by kernel_rfl) (by kernel_rfl) (fun _ _ _ h => h) (Or.inl ⟨by kernel_rfl, ?_⟩) hS ?_
        rotate_left
        · intro V hV
          have k0 := (hV.cell (p := ⟨b1, 0, none⟩) hlq).trans cq0
          have k1 := (hV.cell (p := ⟨b1, 1, none⟩) hlq).trans cq1
          have k2 := (hV.cell (p := ⟨b1, 2, none⟩) hlq).trans cq2
          have k3 := (hV.cell (p := ⟨b1, 3, none⟩) hlq).trans cq3
          go_simp
          (try with_reducible rfl)
        simp only [put_list, List.set_cons_succ, List.set_cons_zero]
        refine wpAnyH_takeL (i := 15) (v := ?_) rfl (by kernel_rfl) (by kernel_rfl) (by kernel_rfl) (fun _ _ _ h => h) (Or.inl ⟨by kernel_rfl, ?_⟩) hS ?_
        rotate_left
        · intro V hV
          have k0 := (hV.cell (p := ⟨w.heap.size, 0, none⟩) hlx).trans cx0
          have k1 := (hV.cell (p := ⟨w.heap.size, 1, none⟩) hlx).trans cx1
          have k2 := (hV.cell (p := ⟨w.heap.size, 2, none⟩) hlx).trans cx2
          have k3 := (hV.cell (p := ⟨w.heap.size, 3, none⟩) hlx).trans cx3
          go_simp
          (try with_reducible rfl)
        simp only [put_list, List.set_cons_succ, List.set_cons_zero]
        refine wpAnyH_ready (rs := [16]) (by kernel_rfl) (by simp) (AllReadyH.cons rfl (fun K hK => ?_) AllReadyH.nil)
        go_simp
        refine (Ck8.out _).mono ?_
        rintro e U4 ⟨rfl, hbc⟩
        refine hK.out _ _ (hS.trans (hbc.mono hS.size)) (fun hS => ?_)
        clear hK K hbc
        refine wpAnyH_takeL (i := 17) (v := ?_) rfl (by kernel_rfl) (by kernel_rfl) (by kernel_rfl) (fun _ _ _ h => h) (Or.inl ⟨by kernel_rfl, ?_⟩) hS ?_
        rotate_left
        · intro V hV
          go_simp
          (try with_reducible rfl)
        simp only [put_list, List.set_cons_succ, List.set_cons_zero]
        refine wpAnyH_takeL (i := 18) (v := ?_) rfl (by kernel_rfl) (by kernel_rfl) (by kernel_rfl) (fun _ _ _ h => h) (Or.inl ⟨by kernel_rfl, ?_⟩) hS ?_
        rotate_left
        · intro V hV
          go_simp
          (try with_reducible rfl)
        simp only [put_list, List.set_cons_succ, List.set_cons_zero]
        refine wpAnyH_takeL (i := 19) (v := ?_) rfl (by kernel_rfl) (by kernel_rfl) (by kernel_rfl) (fun _ _ _ h => h) (Or.inl ⟨by kernel_rfl, ?_⟩) hS ?_
        rotate_left
        · intro V hV
          go_simp
          (try with_reducible rfl)
        simp only [put_list, List.set_cons_succ, List.set_cons_zero]
        refine wpAnyH_takeL (i := 20) (v := ?_) rfl (by kernel_rfl) (by kernel_rfl) (by kernel_rfl) (fun _ _ _ h => h) (Or.inl ⟨by kernel_rfl, ?_⟩) hS ?_
        rotate_left
        · intro V hV
          have k0 := (hV.cell (p := ⟨b3, 0, none⟩) hls).trans cs0
          have k1 := (hV.cell (p := ⟨b3, 1, none⟩) hls).trans cs1
          have k2 := (hV.cell (p := ⟨b3, 2, none⟩) hls).trans cs2
          have k3 := (hV.cell (p := ⟨b3, 3, none⟩) hls).trans cs3
          go_simp
          (try with_reducible rfl)
        simp only [put_list, List.set_cons_succ, List.set_cons_zero]
        refine wpAnyH_takeL (i := 21) (v := ?_) rfl (by kernel_rfl) (by kernel_rfl) (by kernel_rfl) (fun _ _ _ h => h) (Or.inl ⟨by kernel_rfl, ?_⟩) hS ?_
        rotate_left
        · intro V hV
          have k0 := (hV.cell (p := ⟨w.heap.size + 1, 0, none⟩) hly).trans cy0
          have k1 := (hV.cell (p := ⟨w.heap.size + 1, 1, none⟩) hly).trans cy1
          have k2 := (hV.cell (p := ⟨w.heap.size + 1, 2, none⟩) hly).trans cy2
          have k3 := (hV.cell (p := ⟨w.heap.size + 1, 3, none⟩) hly).trans cy3
          go_simp
          (try with_reducible rfl)
        simp only [put_list, List.set_cons_succ, List.set_cons_zero]
        refine wpAnyH_takeL (i := 23) (v := ?_) rfl (by kernel_rfl) (by kernel_rfl) (by kernel_rfl) (fun _ _ _ h => h) (Or.inl ⟨by kernel_rfl, ?_⟩) hS ?_
        rotate_left
        · intro V hV
          have k0 := (hV.cell (p := ⟨b4, 0, none⟩) hlt).trans ct0
          have k1 := (hV.cell (p := ⟨b4, 1, none⟩) hlt).trans ct1
          have k2 := (hV.cell (p := ⟨b4, 2, none⟩) hlt).trans ct2
          have k3 := (hV.cell (p := ⟨b4, 3, none⟩) hlt).trans ct3
          go_simp
          (try with_reducible rfl)
        simp only [put_list, List.set_cons_succ, List.set_cons_zero]
        refine wpAnyH_takeL (i := 25) (v := ?_) rfl (by kernel_rfl) (by kernel_rfl) (by kernel_rfl) (fun _ _ _ h => h) (Or.inl ⟨by kernel_rfl, ?_⟩) hS ?_
        rotate_left
        · intro V hV
          have k0 := (hV.cell (p := ⟨w.heap.size, 0, none⟩) hlx).trans cx0
          have k1 := (hV.cell (p := ⟨w.heap.size, 1, none⟩) hlx).trans cx1
          have k2 := (hV.cell (p := ⟨w.heap.size, 2, none⟩) hlx).trans cx2
          have k3 := (hV.cell (p := ⟨w.heap.size, 3, none⟩) hlx).trans cx3
          go_simp
          (try with_reducible rfl)
        simp only [put_list, List.set_cons_succ, List.set_cons_zero]
        refine wpAnyH_ready (rs := [22]) (by kernel_rfl) (by simp) (AllReadyH.cons rfl (fun K hK => ?_) AllReadyH.nil)
        go_simp
        refine (Ck9.out _).mono ?_
        rintro e U5 ⟨rfl, hbc⟩
        refine hK.out _ _ (hS.trans (hbc.mono hS.size)) (fun hS => ?_)
        clear hK K hbc
        refine wpAnyH_ready (rs := [24]) (by kernel_rfl) (by simp) (AllReadyH.cons rfl (fun K hK => ?_) AllReadyH.nil)
        go_simp
        refine (Ck10.out _).mono ?_
        rintro e U6 ⟨rfl, hbc⟩
        refine hK.out _ _ (hS.trans (hbc.mono hS.size)) (fun hS => ?_)
        clear hK K hbc
        refine wpAnyH_takeL (i := 26) (v := ?_) rfl (by kernel_rfl) (by kernel_rfl) (by kernel_rfl) (fun _ _ _ h => h) (Or.inl ⟨by kernel_rfl, ?_⟩) hS ?_
        rotate_left
        · intro V hV
          go_simp
          (try with_reducible rfl)
        simp only [put_list, List.set_cons_succ, List.set_cons_zero]
        refine wpAnyH_takeL (i := 27) (v := ?_) rfl (by kernel_rfl) (by kernel_rfl) (by kernel_rfl) (fun _ _ _ h => h) (Or.inl ⟨by kernel_rfl, ?_⟩) hS ?_
        rotate_left
        · intro V hV
          go_simp
          (try with_reducible rfl)
        simp only [put_list, List.set_cons_succ, List.set_cons_zero]
        refine wpAnyH_takeL (i := 28) (v := ?_) rfl (by kernel_rfl) (by kernel_rfl) (by kernel_rfl) (fun _ _ _ h => h) (Or.inl ⟨by kernel_rfl, ?_⟩) hS ?_
        rotate_left
        · intro V hV
          go_simp
          (try with_reducible rfl)
        simp only [put_list, List.set_cons_succ, List.set_cons_zero]
        refine wpAnyH_takeL (i := 29) (v := ?_) rfl (by kernel_rfl) (by kernel_rfl) (by kernel_rfl) (fun _ _ _ h => h) (Or.inl ⟨by kernel_rfl, ?_⟩) hS ?_
        rotate_left
        · intro V hV
          have k0 := (hV.cell (p := ⟨b4, 0, none⟩) hlt).trans ct0
          have k1 := (hV.cell (p := ⟨b4, 1, none⟩) hlt).trans ct1
          have k2 := (hV.cell (p := ⟨b4, 2, none⟩) hlt).trans ct2
          have k3 := (hV.cell (p := ⟨b4, 3, none⟩) hlt).trans ct3
          go_simp
          (try with_reducible rfl)
        simp only [put_list, List.set_cons_succ, List.set_cons_zero]
        refine wpAnyH_takeL (i := 30) (v := ?_) rfl (by kernel_rfl) (by kernel_rfl) (by kernel_rfl) (fun _ _ _ h => h) (Or.inl ⟨by kernel_rfl, ?_⟩) hS ?_
        rotate_left
        · intro V hV
          go_simp
          (try with_reducible rfl)
        simp only [put_list, List.set_cons_succ, List.set_cons_zero]
        refine wpAnyH_takeL (i := 31) (v := ?_) rfl (by kernel_rfl) (by kernel_rfl) (by kernel_rfl) (fun _ _ _ h => h) (Or.inl ⟨by kernel_rfl, ?_⟩) hS ?_
        rotate_left
        · intro V hV
          go_simp
          (try with_reducible rfl)
        simp only [put_list, List.set_cons_succ, List.set_cons_zero]
        refine wpAnyH_takeL (i := 32) (v := ?_) rfl (by kernel_rfl) (by kernel_rfl) (by kernel_rfl) (fun _ _ _ h => h) (Or.inl ⟨by kernel_rfl, ?_⟩) hS ?_
        rotate_left
        · intro V hV
          go_simp
          (try with_reducible rfl)
        simp only [put_list, List.set_cons_succ, List.set_cons_zero]
        refine wpAnyH_takeL (i := 33) (v := undef) rfl (by kernel_rfl) (by kernel_rfl) (by kernel_rfl) (fun _ _ _ h => h) (Or.inr ⟨by kernel_rfl, rfl⟩) hS ?_
        simp only [put_list, List.set_cons_succ, List.set_cons_zero]
        refine wpAnyH_takeL (i := 34) (v := undef) rfl (by kernel_rfl) (by kernel_rfl) (by kernel_rfl) (fun _ _ _ h => h) (Or.inr ⟨by kernel_rfl, rfl⟩) hS ?_
        simp only [put_list, List.set_cons_succ, List.set_cons_zero]
        refine wpAnyH_takeL (i := 35) (v := undef) rfl (by kernel_rfl) (by kernel_rfl) (by kernel_rfl) (fun _ _ _ h => h) (Or.inr ⟨by kernel_rfl, rfl⟩) hS ?_
        simp only [put_list, List.set_cons_succ, List.set_cons_zero]
        refine wpAnyH_takeL (i := 36) (v := undef) rfl (by kernel_rfl) (by kernel_rfl) (by kernel_rfl) (fun _ _ _ h => h) (Or.inr ⟨by kernel_rfl, rfl⟩) hS ?_
        simp only [put_list, List.set_cons_succ, List.set_cons_zero]
        refine wpAnyH_takeL (i := 37) (v := undef) rfl (by kernel_rfl) (by kernel_rfl) (by kernel_rfl) (fun _ _ _ h => h) (Or.inr ⟨by kernel_rfl, rfl⟩) hS ?_
        simp only [put_list, List.set_cons_succ, List.set_cons_zero]
        refine wpAnyH_takeL (i := 38) (v := ?_) rfl (by kernel_rfl) (by kernel_rfl) (by kernel_rfl) (fun _ _ _ h => h) (Or.inl ⟨by kernel_rfl, ?_⟩) hS ?_
        rotate_left
        · intro V hV
          go_simp
          (try with_reducible rfl)
        simp only [put_list, List.set_cons_succ, List.set_cons_zero]
        refine wpAnyH_takeL (i := 39) (v := ?_) rfl (by kernel_rfl) (by kernel_rfl) (by kernel_rfl) (fun _ _ _ h => h) (Or.inl ⟨by kernel_rfl, ?_⟩) hS ?_
        rotate_left
        · intro V hV
          go_simp
          (try with_reducible rfl)
        simp only [put_list, List.set_cons_succ, List.set_cons_zero]
        refine wpAnyH_ready (rs := [40]) (by kernel_rfl) (by simp) (AllReadyH.cons rfl (fun K hK => ?_) AllReadyH.nil)
        go_simp
        refine hK.out _ _ hS (fun hS => ?_)
        clear hK K
        refine wpAnyH_done (by kernel_rfl) ?_ _
        go_wp2_with fail
        go_ret
        exact ⟨rfl, HBW.out.trans (hS.mono HBW.out.size)⟩
      · have heqt := fun W => eq_wv (signedN (negB X) (restN (sizeN X % M256) (sizeN Y % M256))) 0 W
        rw [Nat.zero_mod] at heqt
        simp only [decide_eq_false ht0] at heqt
        simp only [ht, hz] at heqt
        have hrs := rest_sign h0 ht0
        rw [hrs] at Ck11
        generalize negB X = nx at Ck11 Ck12
        clear hrs
        have HEQT := hideP heqt
        clear heqt hx hy hq hr hs ht hm ho hz hsz h0 ht0 Ck1 Ck2 Ck3 Ck4 CAW HF
        obtain ⟨cy0, cy1, cy2, cy3⟩ := cells4 HBy.out
        have hly := (Array.getElem?_eq_some_iff.1 HBy.out).1
        go_wp2_with fail
        clear heq0
        have eqx : ∀ W : World, (Op.equalIn 10000 24 (.agg #[.int .u64 x0, .int .u64 x1, .int .u64 x2, .int .u64 x3]) (.agg #[.int .u64 x0, .int .u64 x1, .int .u64 x2, .int .u64 x3])).run Try.prog W = .ok true W := fun W => by rw [eq_words]; simp
        have eqt := HEQT.out
        clear cy0 cy1 cy2 cy3 hly
        obtain ⟨cx0, cx1, cx2, cx3⟩ := cells4 HBx.out
        have hlx := (Array.getElem?_eq_some_iff.1 HBx.out).1
        obtain ⟨cy0, cy1, cy2, cy3⟩ := cells4 HBy.out
        have hly := (Array.getElem?_eq_some_iff.1 HBy.out).1
        obtain ⟨cq0, cq1, cq2, cq3⟩ := cells4 HBq.out
        have hlq := (Array.getElem?_eq_some_iff.1 HBq.out).1
        obtain ⟨cr0, cr1, cr2, cr3⟩ := cells4 HBr.out
        have hlr := (Array.getElem?_eq_some_iff.1 HBr.out).1
        obtain ⟨cs0, cs1, cs2, cs3⟩ := cells4 HBs.out
        have hls := (Array.getElem?_eq_some_iff.1 HBs.out).1
        obtain ⟨ct0, ct1, ct2, ct3⟩ := cells4 HBt.out
        have hlt := (Array.getElem?_eq_some_iff.1 HBt.out).1
        refine wp_region_heldS (S := fun V => Below w6.heap.size w6 V) (by kernel_rfl) (Below.refl _ _).drew (fun hS => ?_)
        refine wpAnyH_takeL (i := 0) (v := ?_) rfl (by kernel_rfl) (by kernel_rfl) (by kernel_rfl) (fun _ _ _ h => h) (Or.inl ⟨by kernel_rfl, ?_⟩) hS ?_
        rotate_left
        · intro V hV
          have k0 := (hV.cell (p := ⟨b1, 0, none⟩) hlq).trans cq0
          have k1 := (hV.cell (p := ⟨b1, 1, none⟩) hlq).trans cq1
          have k2 := (hV.cell (p := ⟨b1, 2, none⟩) hlq).trans cq2
          have k3 := (hV.cell (p := ⟨b1, 3, none⟩) hlq).trans cq3
          go_simp
          (try with_reducible rfl)
        simp only [put_list, List.set_cons_succ, List.set_cons_zero]
        refine wpAnyH_takeL (i := 1) (v := ?_) rfl (by kernel_rfl) (by kernel_rfl) (by kernel_rfl) (fun _ _ _ h => h) (Or.inl ⟨by kernel_rfl, ?_⟩) hS ?_
        rotate_left
        · intro V hV
          have k0 := (hV.cell (p := ⟨w.heap.size + 1, 0, none⟩) hly).trans cy0
          have k1 := (hV.cell (p := ⟨w.heap.size + 1, 1, none⟩) hly).trans cy1
          have k2 := (hV.cell (p := ⟨w.heap.size + 1, 2, none⟩) hly).trans cy2
          have k3 := (hV.cell (p := ⟨w.heap.size + 1, 3, none⟩) hly).trans cy3
          go_simp
          (try with_reducible rfl)
        simp only [put_list, List.set_cons_succ, List.set_cons_zero]
        refine wpAnyH_takeL (i := 3) (v := ?_) rfl (by kernel_rfl) (by kernel_rfl) (by kernel_rfl) (fun _ _ _ h => h) (Or.inl ⟨by kernel_rfl, ?_⟩) hS ?_
        rotate_left
        · intro V hV
          have k0 := (hV.cell (p := ⟨b2, 0, none⟩) hlr).trans cr0
          have k1 := (hV.cell (p := ⟨b2, 1, none⟩) hlr).trans cr1
          have k2 := (hV.cell (p := ⟨b2, 2, none⟩) hlr).trans cr2
          have k3 := (hV.cell (p := ⟨b2, 3, none⟩) hlr).trans cr3
          go_simp
          (try with_reducible rfl)
        simp only [put_list, List.set_cons_succ, List.set_cons_zero]
        refine wpAnyH_takeL (i := 5) (v := ?_) rfl (by kernel_rfl) (by kernel_rfl) (by kernel_rfl) (fun _ _ _ h => h) (Or.inl ⟨by kernel_rfl, ?_⟩) hS ?_
        rotate_left
        · intro V hV
          have k0 := (hV.cell (p := ⟨w.heap.size, 0, none⟩) hlx).trans cx0
          have k1 := (hV.cell (p := ⟨w.heap.size, 1, none⟩) hlx).trans cx1
          have k2 := (hV.cell (p := ⟨w.heap.size, 2, none⟩) hlx).trans cx2
          have k3 := (hV.cell (p := ⟨w.heap.size, 3, none⟩) hlx).trans cx3
          go_simp
          (try with_reducible rfl)
        simp only [put_list, List.set_cons_succ, List.set_cons_zero]
        refine wpAnyH_ready (rs := [2]) (by kernel_rfl) (by simp) (AllReadyH.cons rfl (fun K hK => ?_) AllReadyH.nil)
        go_simp
        refine (Ck5.out _).mono ?_
        rintro e U1 ⟨rfl, hbc⟩
        refine hK.out _ _ (hS.trans (hbc.mono hS.size)) (fun hS => ?_)
        clear hK K hbc
        refine wpAnyH_ready (rs := [4]) (by kernel_rfl) (by simp) (AllReadyH.cons rfl (fun K hK => ?_) AllReadyH.nil)
        go_simp
        refine (Ck6.out _).mono ?_
        rintro e U2 ⟨rfl, hbc⟩
        refine hK.out _ _ (hS.trans (hbc.mono hS.size)) (fun hS => ?_)
        clear hK K hbc
        refine wpAnyH_takeL (i := 6) (v := ?_) rfl (by kernel_rfl) (by kernel_rfl) (by kernel_rfl) (fun _ _ _ h => h) (Or.inl ⟨by kernel_rfl, ?_⟩) hS ?_
        rotate_left
        · intro V hV
          go_simp
          (try with_reducible rfl)
        simp only [put_list, List.set_cons_succ, List.set_cons_zero]
        refine wpAnyH_takeL (i := 7) (v := ?_) rfl (by kernel_rfl) (by kernel_rfl) (by kernel_rfl) (fun _ _ _ h => h) (Or.inl ⟨by kernel_rfl, ?_⟩) hS ?_
        rotate_left
        · intro V hV
          go_simp
          (try with_reducible rfl)
        simp only [put_list, List.set_cons_succ, List.set_cons_zero]
        refine wpAnyH_takeL (i := 8) (v := ?_) rfl (by kernel_rfl) (by kernel_rfl) (by kernel_rfl) (fun _ _ _ h => h) (Or.inl ⟨by kernel_rfl, ?_⟩) hS ?_
        rotate_left
        · intro V hV
          have k0 := (hV.cell (p := ⟨b2, 0, none⟩) hlr).trans cr0
          have k1 := (hV.cell (p := ⟨b2, 1, none⟩) hlr).trans cr1
          have k2 := (hV.cell (p := ⟨b2, 2, none⟩) hlr).trans cr2
          have k3 := (hV.cell (p := ⟨b2, 3, none⟩) hlr).trans cr3
          go_simp
          (try with_reducible rfl)
        simp only [put_list, List.set_cons_succ, List.set_cons_zero]
        refine wpAnyH_takeL (i := 9) (v := ?_) rfl (by kernel_rfl) (by kernel_rfl) (by kernel_rfl) (fun _ _ _ h => h) (Or.inl ⟨by kernel_rfl, ?_⟩) hS ?_
        rotate_left
        · intro V hV
          have k0 := (hV.cell (p := ⟨w.heap.size + 1, 0, none⟩) hly).trans cy0
          have k1 := (hV.cell (p := ⟨w.heap.size + 1, 1, none⟩) hly).trans cy1
          have k2 := (hV.cell (p := ⟨w.heap.size + 1, 2, none⟩) hly).trans cy2
          have k3 := (hV.cell (p := ⟨w.heap.size + 1, 3, none⟩) hly).trans cy3
          go_simp
          (try with_reducible rfl)
        simp only [put_list, List.set_cons_succ, List.set_cons_zero]
        refine wpAnyH_ready (rs := [10]) (by kernel_rfl) (by simp) (AllReadyH.cons rfl (fun K hK => ?_) AllReadyH.nil)
        go_simp
        refine (Ck7.out _).mono ?_
        rintro e U3 ⟨rfl, hbc⟩
        refine hK.out _ _ (hS.trans (hbc.mono hS.size)) (fun hS => ?_)
        clear hK K hbc
        refine wpAnyH_takeL (i := 11) (v := ?_) rfl (by kernel_rfl) (by kernel_rfl) (by kernel_rfl) (fun _ _ _ h => h) (Or.inl ⟨by kernel_rfl, ?_⟩) hS ?_
        rotate_left
        · intro V hV
          go_simp
          (try with_reducible rfl)
        simp only [put_list, List.set_cons_succ, List.set_cons_zero]
        refine wpAnyH_takeL (i := 12) (v := ?_) rfl (by kernel_rfl) (by kernel_rfl) (by kernel_rfl) (fun _ _ _ h => h) (Or.inl ⟨by kernel_rfl, ?_⟩) hS ?_
        rotate_left
        · intro V hV
          go_simp
          (try with_reducible rfl)
        simp only [put_list, List.set_cons_succ, List.set_cons_zero]
        refine wpAnyH_takeL (i := 13) (v := ?_) rfl (by kernel_rfl) (by kernel_rfl) (by kernel_rfl) (fun _ _ _ h => h) (Or.inl ⟨by kernel_rfl, ?_⟩) hS ?_
        rotate_left
        · intro V hV
          go_simp
          (try with_reducible rfl)
        simp only [put_list, List.set_cons_succ, List.set_cons_zero]
        refine wpAnyH_takeL (i := 14) (v := ?_) rfl (by kernel_rfl) (by kernel_rfl) (by kernel_rfl) (fun _ _ _ h => h) (Or.inl ⟨by kernel_rfl, ?_⟩) hS ?_
        rotate_left
        · intro V hV
          have k0 := (hV.cell (p := ⟨b1, 0, none⟩) hlq).trans cq0
          have k1 := (hV.cell (p := ⟨b1, 1, none⟩) hlq).trans cq1
          have k2 := (hV.cell (p := ⟨b1, 2, none⟩) hlq).trans cq2
          have k3 := (hV.cell (p := ⟨b1, 3, none⟩) hlq).trans cq3
          go_simp
          (try with_reducible rfl)
        simp only [put_list, List.set_cons_succ, List.set_cons_zero]
        refine wpAnyH_takeL (i := 15) (v := ?_) rfl (by kernel_rfl) (by kernel_rfl) (by kernel_rfl) (fun _ _ _ h => h) (Or.inl ⟨by kernel_rfl, ?_⟩) hS ?_
        rotate_left
        · intro V hV
          have k0 := (hV.cell (p := ⟨w.heap.size, 0, none⟩) hlx).trans cx0
          have k1 := (hV.cell (p := ⟨w.heap.size, 1, none⟩) hlx).trans cx1
          have k2 := (hV.cell (p := ⟨w.heap.size, 2, none⟩) hlx).trans cx2
          have k3 := (hV.cell (p := ⟨w.heap.size, 3, none⟩) hlx).trans cx3
          go_simp
          (try with_reducible rfl)
        simp only [put_list, List.set_cons_succ, List.set_cons_zero]
        refine wpAnyH_ready (rs := [16]) (by kernel_rfl) (by simp) (AllReadyH.cons rfl (fun K hK => ?_) AllReadyH.nil)
        go_simp
        refine (Ck8.out _).mono ?_
        rintro e U4 ⟨rfl, hbc⟩
        refine hK.out _ _ (hS.trans (hbc.mono hS.size)) (fun hS => ?_)
        clear hK K hbc
        refine wpAnyH_takeL (i := 17) (v := ?_) rfl (by kernel_rfl) (by kernel_rfl) (by kernel_rfl) (fun _ _ _ h => h) (Or.inl ⟨by kernel_rfl, ?_⟩) hS ?_
        rotate_left
        · intro V hV
          go_simp
          (try with_reducible rfl)
        simp only [put_list, List.set_cons_succ, List.set_cons_zero]
        refine wpAnyH_takeL (i := 18) (v := ?_) rfl (by kernel_rfl) (by kernel_rfl) (by kernel_rfl) (fun _ _ _ h => h) (Or.inl ⟨by kernel_rfl, ?_⟩) hS ?_
        rotate_left
        · intro V hV
          go_simp
          (try with_reducible rfl)
        simp only [put_list, List.set_cons_succ, List.set_cons_zero]
        refine wpAnyH_takeL (i := 19) (v := ?_) rfl (by kernel_rfl) (by kernel_rfl) (by kernel_rfl) (fun _ _ _ h => h) (Or.inl ⟨by kernel_rfl, ?_⟩) hS ?_
        rotate_left
        · intro V hV
          go_simp
          (try with_reducible rfl)
        simp only [put_list, List.set_cons_succ, List.set_cons_zero]
        refine wpAnyH_takeL (i := 20) (v := ?_) rfl (by kernel_rfl) (by kernel_rfl) (by kernel_rfl) (fun _ _ _ h => h) (Or.inl ⟨by kernel_rfl, ?_⟩) hS ?_
        rotate_left
        · intro V hV
          have k0 := (hV.cell (p := ⟨b3, 0, none⟩) hls).trans cs0
          have k1 := (hV.cell (p := ⟨b3, 1, none⟩) hls).trans cs1
          have k2 := (hV.cell (p := ⟨b3, 2, none⟩) hls).trans cs2
          have k3 := (hV.cell (p := ⟨b3, 3, none⟩) hls).trans cs3
          go_simp
          (try with_reducible rfl)
        simp only [put_list, List.set_cons_succ, List.set_cons_zero]
        refine wpAnyH_takeL (i := 21) (v := ?_) rfl (by kernel_rfl) (by kernel_rfl) (by kernel_rfl) (fun _ _ _ h => h) (Or.inl ⟨by kernel_rfl, ?_⟩) hS ?_
        rotate_left
        · intro V hV
          have k0 := (hV.cell (p := ⟨w.heap.size + 1, 0, none⟩) hly).trans cy0
          have k1 := (hV.cell (p := ⟨w.heap.size + 1, 1, none⟩) hly).trans cy1
          have k2 := (hV.cell (p := ⟨w.heap.size + 1, 2, none⟩) hly).trans cy2
          have k3 := (hV.cell (p := ⟨w.heap.size + 1, 3, none⟩) hly).trans cy3
          go_simp
          (try with_reducible rfl)
        simp only [put_list, List.set_cons_succ, List.set_cons_zero]
        refine wpAnyH_takeL (i := 23) (v := ?_) rfl (by kernel_rfl) (by kernel_rfl) (by kernel_rfl) (fun _ _ _ h => h) (Or.inl ⟨by kernel_rfl, ?_⟩) hS ?_
        rotate_left
        · intro V hV
          have k0 := (hV.cell (p := ⟨b4, 0, none⟩) hlt).trans ct0
          have k1 := (hV.cell (p := ⟨b4, 1, none⟩) hlt).trans ct1
          have k2 := (hV.cell (p := ⟨b4, 2, none⟩) hlt).trans ct2
          have k3 := (hV.cell (p := ⟨b4, 3, none⟩) hlt).trans ct3
          go_simp
          (try with_reducible rfl)
        simp only [put_list, List.set_cons_succ, List.set_cons_zero]
        refine wpAnyH_takeL (i := 25) (v := ?_) rfl (by kernel_rfl) (by kernel_rfl) (by kernel_rfl) (fun _ _ _ h => h) (Or.inl ⟨by kernel_rfl, ?_⟩) hS ?_
        rotate_left
        · intro V hV
          have k0 := (hV.cell (p := ⟨w.heap.size, 0, none⟩) hlx).trans cx0
          have k1 := (hV.cell (p := ⟨w.heap.size, 1, none⟩) hlx).trans cx1
          have k2 := (hV.cell (p := ⟨w.heap.size, 2, none⟩) hlx).trans cx2
          have k3 := (hV.cell (p := ⟨w.heap.size, 3, none⟩) hlx).trans cx3
          go_simp
          (try with_reducible rfl)
        simp only [put_list, List.set_cons_succ, List.set_cons_zero]
        refine wpAnyH_ready (rs := [22]) (by kernel_rfl) (by simp) (AllReadyH.cons rfl (fun K hK => ?_) AllReadyH.nil)
        go_simp
        refine (Ck9.out _).mono ?_
        rintro e U5 ⟨rfl, hbc⟩
        refine hK.out _ _ (hS.trans (hbc.mono hS.size)) (fun hS => ?_)
        clear hK K hbc
        refine wpAnyH_ready (rs := [24]) (by kernel_rfl) (by simp) (AllReadyH.cons rfl (fun K hK => ?_) AllReadyH.nil)
        go_simp
        refine (Ck10.out _).mono ?_
        rintro e U6 ⟨rfl, hbc⟩
        refine hK.out _ _ (hS.trans (hbc.mono hS.size)) (fun hS => ?_)
        clear hK K hbc
        refine wpAnyH_takeL (i := 26) (v := ?_) rfl (by kernel_rfl) (by kernel_rfl) (by kernel_rfl) (fun _ _ _ h => h) (Or.inl ⟨by kernel_rfl, ?_⟩) hS ?_
        rotate_left
        · intro V hV
          go_simp
          (try with_reducible rfl)
        simp only [put_list, List.set_cons_succ, List.set_cons_zero]
        refine wpAnyH_takeL (i := 27) (v := ?_) rfl (by kernel_rfl) (by kernel_rfl) (by kernel_rfl) (fun _ _ _ h => h) (Or.inl ⟨by kernel_rfl, ?_⟩) hS ?_
        rotate_left
        · intro V hV
          go_simp
          (try with_reducible rfl)
        simp only [put_list, List.set_cons_succ, List.set_cons_zero]
        refine wpAnyH_takeL (i := 28) (v := ?_) rfl (by kernel_rfl) (by kernel_rfl) (by kernel_rfl) (fun _ _ _ h => h) (Or.inl ⟨by kernel_rfl, ?_⟩) hS ?_
        rotate_left
        · intro V hV
          go_simp
          (try with_reducible rfl)
        simp only [put_list, List.set_cons_succ, List.set_cons_zero]
        refine wpAnyH_takeL (i := 29) (v := ?_) rfl (by kernel_rfl) (by kernel_rfl) (by kernel_rfl) (fun _ _ _ h => h) (Or.inl ⟨by kernel_rfl, ?_⟩) hS ?_
        rotate_left
        · intro V hV
          have k0 := (hV.cell (p := ⟨b4, 0, none⟩) hlt).trans ct0
          have k1 := (hV.cell (p := ⟨b4, 1, none⟩) hlt).trans ct1
          have k2 := (hV.cell (p := ⟨b4, 2, none⟩) hlt).trans ct2
          have k3 := (hV.cell (p := ⟨b4, 3, none⟩) hlt).trans ct3
          go_simp
          (try with_reducible rfl)
        simp only [put_list, List.set_cons_succ, List.set_cons_zero]
        refine wpAnyH_takeL (i := 30) (v := ?_) rfl (by kernel_rfl) (by kernel_rfl) (by kernel_rfl) (fun _ _ _ h => h) (Or.inl ⟨by kernel_rfl, ?_⟩) hS ?_
        rotate_left
        · intro V hV
          go_simp
          (try with_reducible rfl)
        simp only [put_list, List.set_cons_succ, List.set_cons_zero]
        refine wpAnyH_takeL (i := 31) (v := ?_) rfl (by kernel_rfl) (by kernel_rfl) (by kernel_rfl) (fun _ _ _ h => h) (Or.inl ⟨by kernel_rfl, ?_⟩) hS ?_
        rotate_left
        · intro V hV
          go_simp
          (try with_reducible rfl)
        simp only [put_list, List.set_cons_succ, List.set_cons_zero]
        refine wpAnyH_takeL (i := 32) (v := ?_) rfl (by kernel_rfl) (by kernel_rfl) (by kernel_rfl) (fun _ _ _ h => h) (Or.inl ⟨by kernel_rfl, ?_⟩) hS ?_
        rotate_left
        · intro V hV
          go_simp
          (try with_reducible rfl)
        simp only [put_list, List.set_cons_succ, List.set_cons_zero]
        refine wpAnyH_takeL (i := 33) (v := ?_) rfl (by kernel_rfl) (by kernel_rfl) (by kernel_rfl) (fun _ _ _ h => h) (Or.inl ⟨by kernel_rfl, ?_⟩) hS ?_
        rotate_left
        · intro V hV
          have k0 := (hV.cell (p := ⟨b4, 0, none⟩) hlt).trans ct0
          have k1 := (hV.cell (p := ⟨b4, 1, none⟩) hlt).trans ct1
          have k2 := (hV.cell (p := ⟨b4, 2, none⟩) hlt).trans ct2
          have k3 := (hV.cell (p := ⟨b4, 3, none⟩) hlt).trans ct3
          go_simp
          (try with_reducible rfl)
        simp only [put_list, List.set_cons_succ, List.set_cons_zero]
        refine wpAnyH_takeL (i := 35) (v := ?_) rfl (by kernel_rfl) (by kernel_rfl) (by kernel_rfl) (fun _ _ _ h => h) (Or.inl ⟨by kernel_rfl, ?_⟩) hS ?_
        rotate_left
        · intro V hV
          have k0 := (hV.cell (p := ⟨w.heap.size, 0, none⟩) hlx).trans cx0
          have k1 := (hV.cell (p := ⟨w.heap.size, 1, none⟩) hlx).trans cx1
          have k2 := (hV.cell (p := ⟨w.heap.size, 2, none⟩) hlx).trans cx2
          have k3 := (hV.cell (p := ⟨w.heap.size, 3, none⟩) hlx).trans cx3
          go_simp
          (try with_reducible rfl)
        simp only [put_list, List.set_cons_succ, List.set_cons_zero]
        refine wpAnyH_ready (rs := [34]) (by kernel_rfl) (by simp) (AllReadyH.cons rfl (fun K hK => ?_) AllReadyH.nil)
        go_simp
        refine (Ck11.out _).mono ?_
        rintro e U7 ⟨rfl, hbc⟩
        refine hK.out _ _ (hS.trans (hbc.mono hS.size)) (fun hS => ?_)
        clear hK K hbc
        refine wpAnyH_ready (rs := [36]) (by kernel_rfl) (by simp) (AllReadyH.cons rfl (fun K hK => ?_) AllReadyH.nil)
        go_simp
        refine (Ck12.out _).mono ?_
        rintro e U8 ⟨rfl, hbc⟩
        refine hK.out _ _ (hS.trans (hbc.mono hS.size)) (fun hS => ?_)
        clear hK K hbc
        refine wpAnyH_takeL (i := 37) (v := ?_) rfl (by kernel_rfl) (by kernel_rfl) (by kernel_rfl) (fun _ _ _ h => h) (Or.inl ⟨by kernel_rfl, ?_⟩) hS ?_
        rotate_left
        · intro V hV
          go_simp
          (try with_reducible rfl)
        simp only [put_list, List.set_cons_succ, List.set_cons_zero]
        refine wpAnyH_takeL (i := 38) (v := ?_) rfl (by kernel_rfl) (by kernel_rfl) (by kernel_rfl) (fun _ _ _ h => h) (Or.inl ⟨by kernel_rfl, ?_⟩) hS ?_
        rotate_left
        · intro V hV
          go_simp
          (try with_reducible rfl)
        simp only [put_list, List.set_cons_succ, List.set_cons_zero]
        refine wpAnyH_takeL (i := 39) (v := ?_) rfl (by kernel_rfl) (by kernel_rfl) (by kernel_rfl) (fun _ _ _ h => h) (Or.inl ⟨by kernel_rfl, ?_⟩) hS ?_
        rotate_left
        · intro V hV
          go_simp
          (try with_reducible rfl)
        simp only [put_list, List.set_cons_succ, List.set_cons_zero]
        refine wpAnyH_ready (rs := [40]) (by kernel_rfl) (by simp) (AllReadyH.cons rfl (fun K hK => ?_) AllReadyH.nil)
        go_simp
        refine hK.out _ _ hS (fun hS => ?_)
        clear hK K
        refine wpAnyH_done (by kernel_rfl) ?_ _
        go_wp2_with fail
        go_ret
        exact ⟨rfl, HBW.out.trans (hS.mono HBW.out.size)⟩

end Go.Proofs.Ytpnijncoldihfaa
