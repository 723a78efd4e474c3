/-
  The document's sums, differences and products of words.
-/
import Derived.Test.YtpnijncoldihfaaSumsC23
import Derived.Test.YtpnijncoldihfaaSumsC24
namespace Go.Proofs.Ytpnijncoldihfaa
open Go.RowKit Go.Shelf

/-- All but the box R is as it was; R is a box of four cells. -/
structure KeepT (t : Nat) (W0 : World) (R : Nat) (V : World) : Prop where
  same : ∀ b, b < W0.heap.size → b ≠ R → V.heap[b]? = W0.heap[b]?
  below : Below R W0 V
  res : ∃ z0 z1 z2 z3, V.heap[R]? = some (.cells #[z0, z1, z2, z3] t (0, 0))

section
variable {t : Nat} {W0 V V' : World} {R : Nat}
theorem KeepT.init {z0 z1 z2 z3 : Value} (h : W0.heap[R]? = some (.cells #[z0, z1, z2, z3] t (0, 0))) : KeepT t W0 R W0.drew :=
  ⟨fun _ _ _ => rfl, (Below.refl _ _).drew, z0, z1, z2, z3, h⟩

theorem KeepT.call (h : KeepT t W0 R V) (hb : Below V.heap.size V V') : KeepT t W0 R V' := by
  obtain ⟨z0, z1, z2, z3, hz⟩ := h.res
  have hs : W0.heap.size ≤ V.heap.size := h.below.size
  exact ⟨fun b h1 h2 => (hb.block b (by omega)).trans (h.same b h1 h2), h.below.trans (hb.mono (Nat.le_of_lt (lt_of_block hz))), z0, z1, z2, z3, (hb.block R (lt_of_block hz)).trans hz⟩

theorem KeepT.store (h : KeepT t W0 R V) (z0 z1 z2 z3 : Value) : KeepT t W0 R ((((V.setCell ⟨R, 0, none⟩ z0).setCell ⟨R, 1, none⟩ z1).setCell ⟨R, 2, none⟩ z2).setCell ⟨R, 3, none⟩ z3) := by
  obtain ⟨y0, y1, y2, y3, hz⟩ := h.res
  exact ⟨fun b h1 h2 => (other4 h2).trans (h.same b h1 h2), below_stored4 h.below (Nat.le_refl _), z0, z1, z2, z3, stored4 hz⟩

theorem KeepT.cells (h : KeepT t W0 R V) {b t' : Nat} {u0 u1 u2 u3 : Value} (hb : W0.heap[b]? = some (.cells #[u0, u1, u2, u3] t' (0, 0))) (hne : b ≠ R) :
    V.cell? ⟨b, 0, none⟩ = some u0 ∧ V.cell? ⟨b, 1, none⟩ = some u1 ∧ V.cell? ⟨b, 2, none⟩ = some u2 ∧ V.cell? ⟨b, 3, none⟩ = some u3 :=
  cells4 ((h.same b (lt_of_block hb) hne).trans hb)

theorem KeepT.room (h : KeepT t W0 R V) : ∃ z0 z1 z2 z3, V.cell? ⟨R, 0, none⟩ = some z0 ∧ V.cell? ⟨R, 1, none⟩ = some z1 ∧ V.cell? ⟨R, 2, none⟩ = some z2 ∧ V.cell? ⟨R, 3, none⟩ = some z3 ∧ ∀ o, V.frozen? ⟨R, o, none⟩ = false := by
  obtain ⟨z0, z1, z2, z3, hz⟩ := h.res
  obtain ⟨a, b, c, d⟩ := cells4 hz
  exact ⟨z0, z1, z2, z3, a, b, c, d, fun o => blk_free hz⟩

end

set_option maxHeartbeats 4000000 in
set_option maxRecDepth 100000 in
theorem refAdd_any (X Y : Nat) (w : World) : Calls Try.prog 24 #[wv X, wv Y] w fun e w' => e = .returned (wv (X + Y)) ∧ Below w.heap.size w w' := by
  have c1 := fun W => fromWord_any X W
  have c2 := fun W => fromWord_any Y W
  have c3 := fun W => plus_any (X % M256) (Y % M256) W
  have c4 := fun W => toWord_any (X % M256 + Y % M256) W
  have hv : wv (X % M256 + Y % M256) = wv (X + Y) := wv_congr (Nat.add_mod _ _ _).symm
  rw [hv] at c4
  clear hv
  obtain ⟨x0, x1, x2, x3, hx⟩ := wv_form X
  obtain ⟨y0, y1, y2, y3, hy⟩ := wv_form Y
  obtain ⟨z0, z1, z2, z3, hz⟩ := wv_form (X + Y)
  simp only [hx, hy, hz] at c1 c2 c3 c4 ⊢
  have C1 := hideP c1
  have C2 := hideP c2
  have C3 := hideP c3
  have C4 := hideP c4
  clear c1 c2 c3 c4 hx hy hz
  go_enter Try.func24, Try.ntmps24
  go_wp2_with fail
  refine at_world_t (fun W0 hW0 => ?_)
  have HBx : W0.heap[w.heap.size]? = some (.cells #[.int .u64 x0, .int .u64 x1, .int .u64 x2, .int .u64 x3] 23 (0, 0)) := by
    rw [hW0, heap_old _ _ (by simp <;> omega), heap_old _ _ (by simp <;> omega)]
    exact heap_new _ _
  have HBy : W0.heap[w.heap.size + 1]? = some (.cells #[.int .u64 y0, .int .u64 y1, .int .u64 y2, .int .u64 y3] 23 (0, 0)) := by
    rw [hW0, heap_old _ _ (by simp <;> omega)]
    exact heap_new1 _ _ _
  have HBr : W0.heap[w.heap.size + 1 + 1]? = some (.cells #[.int .u64 0, .int .u64 0, .int .u64 0, .int .u64 0] 23 (0, 0)) := by
    rw [hW0]
    exact heap_new2 _ _ _ _
  have HBW : Hid (Below w.heap.size w W0) := by
    show Below _ _ _
    rw [hW0]
    exact ((((Below.refl _ w).alloc (Nat.le_refl _) _).alloc (by simp) _).alloc (by simp <;> omega) _)
  clear hW0
  refine wp_region_heldS (S := KeepT 23 W0 (w.heap.size + 1 + 1)) (by kernel_rfl) (KeepT.init HBr) (fun hS => ?_)
  refine wpAnyH_takeL (i := 0) (v := ?_) rfl (by kernel_rfl) (by kernel_rfl) (by kernel_rfl) (fun _ _ _ h => h) (Or.inl ⟨by kernel_rfl, ?_⟩) hS ?_
  rotate_left
  · intro V hV
    obtain ⟨k0, k1, k2, k3⟩ := hV.cells HBx (by omega)
    go_simp
    (try with_reducible rfl)
  simp only [put_list, List.set_cons_succ, List.set_cons_zero]
  refine wpAnyH_takeL (i := 2) (v := ?_) rfl (by kernel_rfl) (by kernel_rfl) (by kernel_rfl) (fun _ _ _ h => h) (Or.inl ⟨by kernel_rfl, ?_⟩) hS ?_
  rotate_left
  · intro V hV
    obtain ⟨k0, k1, k2, k3⟩ := hV.cells HBy (by omega)
    go_simp
    (try with_reducible rfl)
  simp only [put_list, List.set_cons_succ, List.set_cons_zero]
  refine wpAnyH_ready (rs := [1]) (by kernel_rfl) (by simp) (AllReadyH.cons rfl (fun K hK => ?_) AllReadyH.nil)
  go_simp
  refine (C1.out _).mono ?_
  rintro e U1 ⟨rfl, hbc⟩
  refine hK.out _ _ (hS.call hbc) (fun hS => ?_)
  clear hK K hbc
  refine wpAnyH_ready (rs := [3]) (by kernel_rfl) (by simp) (AllReadyH.cons rfl (fun K hK => ?_) AllReadyH.nil)
  go_simp
  refine (C2.out _).mono ?_
  rintro e U2 ⟨rfl, hbc⟩
  refine hK.out _ _ (hS.call hbc) (fun hS => ?_)
  clear hK K hbc
  refine wpAnyH_ready (rs := [4]) (by kernel_rfl) (by simp) (AllReadyH.cons rfl (fun K hK => ?_) AllReadyH.nil)
  go_simp
  refine (C3.out _).mono ?_
  rintro e U3 ⟨rfl, hbc⟩
  refine hK.out _ _ (hS.call hbc) (fun hS => ?_)
  clear hK K hbc
  refine wpAnyH_ready (rs := [5]) (by kernel_rfl) (by simp) (AllReadyH.cons rfl (fun K hK => ?_) AllReadyH.nil)
  go_simp
  refine (C4.out _).mono ?_
  rintro e U4 ⟨rfl, hbc⟩
  refine hK.out _ _ (hS.call hbc) (fun hS => ?_)
  clear hK K hbc
  obtain ⟨r0, r1, r2, r3, j0, j1, j2, j3, jf⟩ := hS.room
  refine wpAnyH_ready (rs := [6]) (by kernel_rfl) (by simp) (AllReadyH.cons rfl (fun K hK => ?_) AllReadyH.nil)
  go_simp
  refine hK.out _ _ (hS.store _ _ _ _) (fun hS => ?_)
  clear hK K jf
  refine wpAnyH_done (by kernel_rfl) ?_ _
  go_wp2_with fail
  refine bodyPost_ret (v := .agg #[.int .u64 z0, .int .u64 z1, .int .u64 z2, .int .u64 z3]) (by simp [results, Try.results24, go_sem, j0, j1, j2, j3]) rfl ⟨rfl, ?_⟩
  exact HBW.out.trans (hS.below.mono (by omega))

theorem at_world_q {P : Program} {f : FuncId} {args : Array Value} {w : World} {Q : Ending → World → Prop} (h : ∀ W0, W0 = w → Calls P f args W0 Q) : Calls P f args w Q := h w rfl

set_option maxHeartbeats 4000000 in
set_option maxRecDepth 100000 in
theorem refMul_any (X Y : Nat) (w : World) : Calls Try.prog 28 #[wv X, wv Y] w fun e w' => e = .returned (wv (X * Y)) ∧ Below w.heap.size w w' := by
  have c1 := fun W => times_any X Y W
  have c2 := fun W => toWord_any (X % M256 * (Y % M256)) W
  have hv : wv (X % M256 * (Y % M256)) = wv (X * Y) := wv_congr (Nat.mul_mod _ _ _).symm
  rw [hv] at c2
  clear hv
  obtain ⟨x0, x1, x2, x3, hx⟩ := wv_form X
  obtain ⟨y0, y1, y2, y3, hy⟩ := wv_form Y
  obtain ⟨z0, z1, z2, z3, hz⟩ := wv_form (X * Y)
  simp only [hx, hy, hz] at c1 c2 ⊢
  have C1 := hideP c1
  have C2 := hideP c2
  clear c1 c2 hx hy hz
  go_enter Try.func28, Try.ntmps28
  go_wp2_with fail
  refine at_world_q (fun W0 hW0 => ?_)
  have HBr : W0.heap[w.heap.size + 1 + 1]? = some (.cells #[.int .u64 0, .int .u64 0, .int .u64 0, .int .u64 0] 23 (0, 0)) := by
    rw [hW0]
    exact heap_new2 _ _ _ _
  have HBW : Hid (Below w.heap.size w W0) := by
    show Below _ _ _
    rw [hW0]
    repeat first | exact Below.refl _ _ | (refine Below.alloc ?_ (by simp <;> omega) _)
  clear hW0
  refine (C1.out _).mono ?_
  rintro e w1 ⟨rfl, hb⟩
  replace HBr := (hb.block _ (lt_of_block HBr)).trans HBr
  replace HBW := hideP (HBW.out.trans (hb.mono HBW.out.size))
  clear hb
  go_wp2_with fail
  refine (C2.out _).mono ?_
  rintro e w2 ⟨rfl, hb⟩
  replace HBr := (hb.block _ (lt_of_block HBr)).trans HBr
  replace HBW := hideP (HBW.out.trans (hb.mono HBW.out.size))
  clear hb
  obtain ⟨j0, j1, j2, j3⟩ := cells4 HBr
  have jf : ∀ o, w2.frozen? ⟨w.heap.size + 1 + 1, o, none⟩ = false := fun o => blk_free HBr
  clear HBr
  go_wp2_with fail
  refine bodyPost_ret (v := .agg #[.int .u64 z0, .int .u64 z1, .int .u64 z2, .int .u64 z3]) (by simp [results, Try.results28, go_sem, j0, j1, j2, j3]) rfl ⟨rfl, ?_⟩
  exact below_stored4 HBW.out (by omega)

set_option maxHeartbeats 1000000 in
set_option maxRecDepth 100000 in
theorem refNot_any (X : Nat) (w : World) : Calls Try.prog 57 #[wv X] w fun e w' => e = .returned (wv (M256 - 1 - X % M256)) ∧ Below w.heap.size w w' := by
  obtain ⟨x0, x1, x2, x3, h0, h1, h2, h3, eX, hX⟩ := wv_limbs X
  have hr : Value.agg #[.int .u64 ((18446744073709551615 - x0 : Nat) : Int), .int .u64 ((18446744073709551615 - x1 : Nat) : Int), .int .u64 ((18446744073709551615 - x2 : Nat) : Int), .int .u64 ((18446744073709551615 - x3 : Nat) : Int)] = wv (M256 - 1 - X % M256) := by
    refine wv_num (by omega) (by omega) (by omega) (by omega) ?_
    rw [Nat.mod_eq_of_lt (by have := M256_pos; omega), eX]
    unfold M256 num
    omega
  rw [hX]
  have n0 := not_limb x0 h0
  have n1 := not_limb x1 h1
  have n2 := not_limb x2 h2
  have n3 := not_limb x3 h3
  have HR := hideP hr
  clear hr eX hX h0 h1 h2 h3
  generalize 18446744073709551615 - x0 = y0 at n0 HR
  generalize 18446744073709551615 - x1 = y1 at n1 HR
  generalize 18446744073709551615 - x2 = y2 at n2 HR
  generalize 18446744073709551615 - x3 = y3 at n3 HR
  go_enter Try.func57, Try.ntmps57
  go_wp2_with fail
  refine wp_loop_rounds 5 ?_
  rw [rounds_succ]
  go_wp2_with fail
  rw [rounds_succ]
  go_wp2_with fail
  rw [rounds_succ]
  go_wp2_with fail
  rw [rounds_succ]
  go_wp2_with fail
  rw [rounds_succ]
  go_wp2
  refine bodyPost_ret (v := .agg #[.int .u64 y0, .int .u64 y1, .int .u64 y2, .int .u64 y3]) (by simp [results, Try.results57, go_sem]) rfl ⟨by rw [HR.out], ?_⟩
  repeat first | exact Below.refl _ _ | apply Below.drew | (refine Below.alloc ?_ (by simp <;> omega) _) | (refine Below.setCell ?_ (by simp <;> omega) _)

set_option maxRecDepth 100000 in
theorem refOf_any (n : Nat) (hn : n < 18446744073709551616) (w : World) : Calls Try.prog 22 #[.int .u64 n] w fun e w' => e = .returned (wv n) ∧ Below w.heap.size w w' := by
  have hr : Value.agg #[.int .u64 (n : Int), .int .u64 ((0 : Nat) : Int), .int .u64 ((0 : Nat) : Int), .int .u64 ((0 : Nat) : Int)] = wv n := by
    refine wv_num hn (by omega) (by omega) (by omega) ?_
    rw [Nat.mod_eq_of_lt (by unfold M256; omega)]
    unfold num
    omega
  have HR := hideP hr
  clear hr hn
  go_enter Try.func22, Try.ntmps22
  go_wp2
  refine bodyPost_ret (v := .agg #[.int .u64 (n : Int), .int .u64 0, .int .u64 0, .int .u64 0]) (by simp [results, Try.results22, go_sem]) rfl ⟨by rw [← HR.out]; rfl, ?_⟩
  repeat first | exact Below.refl _ _ | apply Below.drew | (refine Below.alloc ?_ (by simp <;> omega) _) | (refine Below.setCell ?_ (by simp <;> omega) _)

set_option maxHeartbeats 4000000 in
set_option maxRecDepth 100000 in
theorem refNeg_any (X : Nat) (w : World) : Calls Try.prog 90 #[wv X] w fun e w' => e = .returned (wv (negN X)) ∧ Below w.heap.size w w' := by
  have c1 := fun W => refNot_any X W
  have c2 := fun W => refOf_any 1 (by omega) W
  have c3 := fun W => refAdd_any (M256 - 1 - X % M256) 1 W
  have hv : wv (M256 - 1 - X % M256 + 1) = wv (negN X) := by
    have h := Nat.mod_lt X M256_pos
    unfold negN
    rw [show M256 - 1 - X % M256 + 1 = M256 - X % M256 by omega]
  rw [hv] at c3
  clear hv
  obtain ⟨x0, x1, x2, x3, hx⟩ := wv_form X
  obtain ⟨z0, z1, z2, z3, hz⟩ := wv_form (negN X)
  obtain ⟨n0, n1, n2, n3, hn⟩ := wv_form (M256 - 1 - X % M256)
  obtain ⟨o0, o1, o2, o3, ho⟩ := wv_form 1
  simp only [hx, hz, hn, ho] at c1 c2 c3 ⊢
  have C1 := hideP c1
  have C2 := hideP c2
  have C3 := hideP c3
  clear c1 c2 c3 hx hz hn ho
  go_enter Try.func90, Try.ntmps90
  go_wp2_with fail
  refine at_world_q (fun W0 hW0 => ?_)
  have HBr : W0.heap[w.heap.size + 1]? = some (.cells #[.int .u64 0, .int .u64 0, .int .u64 0, .int .u64 0] 23 (0, 0)) := by
    rw [hW0]
    exact heap_new1 _ _ _
  have HBW : Hid (Below w.heap.size w W0) := by
    show Below _ _ _
    rw [hW0]
    repeat first | exact Below.refl _ _ | (refine Below.alloc ?_ (by simp <;> omega) _)
  clear hW0
  refine (C1.out _).mono ?_
  rintro e w1 ⟨rfl, hb⟩
  replace HBr := (hb.block _ (lt_of_block HBr)).trans HBr
  replace HBW := hideP (HBW.out.trans (hb.mono HBW.out.size))
  clear hb
  go_wp2_with fail
  refine (C2.out _).mono ?_
  rintro e w2 ⟨rfl, hb⟩
  replace HBr := (hb.block _ (lt_of_block HBr)).trans HBr
  replace HBW := hideP (HBW.out.trans (hb.mono HBW.out.size))
  clear hb
  go_wp2_with fail
  refine (C3.out _).mono ?_
  rintro e w3 ⟨rfl, hb⟩
  replace HBr := (hb.block _ (lt_of_block HBr)).trans HBr
  replace HBW := hideP (HBW.out.trans (hb.mono HBW.out.size))
  clear hb
  obtain ⟨j0, j1, j2, j3⟩ := cells4 HBr
  have jf : ∀ o, w3.frozen? ⟨w.heap.size + 1, o, none⟩ = false := fun o => blk_free HBr
  clear HBr
  go_wp2_with fail
  refine bodyPost_ret (v := .agg #[.int .u64 z0, .int .u64 z1, .int .u64 z2, .int .u64 z3]) (by simp [results, Try.results90, go_sem, j0, j1, j2, j3]) rfl ⟨rfl, ?_⟩
  exact below_stored4 HBW.out (by omega)

set_option maxHeartbeats 4000000 in
set_option maxRecDepth 100000 in
theorem refSub_any (X Y : Nat) (w : World) : Calls Try.prog 26 #[wv X, wv Y] w fun e w' => e = .returned (wv (X + negN Y)) ∧ Below w.heap.size w w' := by
  have c1 := fun W => refNeg_any Y W
  have c2 := fun W => refAdd_any X (negN Y) W
  obtain ⟨x0, x1, x2, x3, hx⟩ := wv_form X
  obtain ⟨y0, y1, y2, y3, hy⟩ := wv_form Y
  obtain ⟨z0, z1, z2, z3, hz⟩ := wv_form (X + negN Y)
  obtain ⟨n0, n1, n2, n3, hn⟩ := wv_form (negN Y)
  simp only [hx, hy, hz, hn] at c1 c2 ⊢
  have C1 := hideP c1
  have C2 := hideP c2
  clear c1 c2 hx hy hz hn
  go_enter Try.func26, Try.ntmps26
  go_wp2_with fail
  refine at_world_t (fun W0 hW0 => ?_)
  have HBx : W0.heap[w.heap.size]? = some (.cells #[.int .u64 x0, .int .u64 x1, .int .u64 x2, .int .u64 x3] 23 (0, 0)) := by
    rw [hW0, heap_old _ _ (by simp <;> omega), heap_old _ _ (by simp <;> omega)]
    exact heap_new _ _
  have HBy : W0.heap[w.heap.size + 1]? = some (.cells #[.int .u64 y0, .int .u64 y1, .int .u64 y2, .int .u64 y3] 23 (0, 0)) := by
    rw [hW0, heap_old _ _ (by simp <;> omega)]
    exact heap_new1 _ _ _
  have HBr : W0.heap[w.heap.size + 1 + 1]? = some (.cells #[.int .u64 0, .int .u64 0, .int .u64 0, .int .u64 0] 23 (0, 0)) := by
    rw [hW0]
    exact heap_new2 _ _ _ _
  have HBW : Hid (Below w.heap.size w W0) := by
    show Below _ _ _
    rw [hW0]
    exact ((((Below.refl _ w).alloc (Nat.le_refl _) _).alloc (by simp) _).alloc (by simp <;> omega) _)
  clear hW0
  refine wp_region_heldS (S := KeepT 23 W0 (w.heap.size + 1 + 1)) (by kernel_rfl) (KeepT.init HBr) (fun hS => ?_)
  refine wpAnyH_takeL (i := 0) (v := ?_) rfl (by kernel_rfl) (by kernel_rfl) (by kernel_rfl) (fun _ _ _ h => h) (Or.inl ⟨by kernel_rfl, ?_⟩) hS ?_
  rotate_left
  · intro V hV
    obtain ⟨k0, k1, k2, k3⟩ := hV.cells HBx (by omega)
    go_simp
    (try with_reducible rfl)
  simp only [put_list, List.set_cons_succ, List.set_cons_zero]
  refine wpAnyH_takeL (i := 1) (v := ?_) rfl (by kernel_rfl) (by kernel_rfl) (by kernel_rfl) (fun _ _ _ h => h) (Or.inl ⟨by kernel_rfl, ?_⟩) hS ?_
  rotate_left
  · intro V hV
    obtain ⟨k0, k1, k2, k3⟩ := hV.cells HBy (by omega)
    go_simp
    (try with_reducible rfl)
  simp only [put_list, List.set_cons_succ, List.set_cons_zero]
  refine wpAnyH_ready (rs := [2]) (by kernel_rfl) (by simp) (AllReadyH.cons rfl (fun K hK => ?_) AllReadyH.nil)
  go_simp
  refine (C1.out _).mono ?_
  rintro e U1 ⟨rfl, hbc⟩
  refine hK.out _ _ (hS.call hbc) (fun hS => ?_)
  clear hK K hbc
  refine wpAnyH_ready (rs := [3]) (by kernel_rfl) (by simp) (AllReadyH.cons rfl (fun K hK => ?_) AllReadyH.nil)
  go_simp
  refine (C2.out _).mono ?_
  rintro e U2 ⟨rfl, hbc⟩
  refine hK.out _ _ (hS.call hbc) (fun hS => ?_)
  clear hK K hbc
  obtain ⟨r0, r1, r2, r3, j0, j1, j2, j3, jf⟩ := hS.room
  refine wpAnyH_ready (rs := [4]) (by kernel_rfl) (by simp) (AllReadyH.cons rfl (fun K hK => ?_) AllReadyH.nil)
  go_simp
  refine hK.out _ _ (hS.store _ _ _ _) (fun hS => ?_)
  clear hK K jf
  refine wpAnyH_done (by kernel_rfl) ?_ _
  go_wp2_with fail
  refine bodyPost_ret (v := .agg #[.int .u64 z0, .int .u64 z1, .int .u64 z2, .int .u64 z3]) (by simp [results, Try.results26, go_sem, j0, j1, j2, j3]) rfl ⟨rfl, ?_⟩
  exact HBW.out.trans (hS.below.mono (by omega))

end Go.Proofs.Ytpnijncoldihfaa
