/-
  Division of words by words of one limb.
-/
import Derived.Deep.DeepCutAuto
import Derived.Test.YtpnijncoldihfaaTextsC08
namespace Go.Proofs.Ytpnijncoldihfaa
open Go.RowKit Go.Shelf

theorem w8_wv_form (Z : Nat) : ∃ q0 q1 q2 q3 q4 q5 q6 q7 : Int, w8 Z = .agg #[.int .u64 q0, .int .u64 q1, .int .u64 q2, .int .u64 q3, .int .u64 q4, .int .u64 q5, .int .u64 q6, .int .u64 q7] ∧ wv Z = .agg #[.int .u64 q0, .int .u64 q1, .int .u64 q2, .int .u64 q3] :=
  ⟨_, _, _, _, _, _, _, _, rfl, wv_limb Z⟩

theorem M256_lt8 {X : Nat} : X % M256 < 18446744073709551616 ^ 8 := Nat.lt_trans (Nat.mod_lt _ M256_pos) (by decide)

/-- What the division's statement leaves: the quotient's eight limbs in a new box, the rest in its own. -/
structure DV (w V : World) (B : Nat) (q0 q1 q2 q3 q4 q5 q6 q7 r0 r1 r2 r3 : Int) : Prop where
  q : V.heap[B]? = some (.cells #[.int .u64 q0, .int .u64 q1, .int .u64 q2, .int .u64 q3, .int .u64 q4, .int .u64 q5, .int .u64 q6, .int .u64 q7] 36 (0, 0))
  z : V.heap[w.heap.size + 1 + 1]? = some (.cells #[.int .u64 0, .int .u64 0, .int .u64 0, .int .u64 0] 24 (0, 0))
  r : V.heap[w.heap.size + 1 + 1 + 1]? = some (.cells #[.int .u64 r0, .int .u64 r1, .int .u64 r2, .int .u64 r3] 24 (0, 0))
  lt : w.heap.size + 1 + 1 + 1 < B
  b : Below w.heap.size w V

/-- The four boxes of a division. -/
structure Bs (w : World) (x0 x1 x2 x3 y0 y1 y2 y3 : Int) (V : World) : Prop where
  x : V.heap[w.heap.size]? = some (.cells #[.int .u64 x0, .int .u64 x1, .int .u64 x2, .int .u64 x3] 24 (0, 0))
  y : V.heap[w.heap.size + 1]? = some (.cells #[.int .u64 y0, .int .u64 y1, .int .u64 y2, .int .u64 y3] 24 (0, 0))
  q : V.heap[w.heap.size + 1 + 1]? = some (.cells #[.int .u64 0, .int .u64 0, .int .u64 0, .int .u64 0] 24 (0, 0))
  r : ∃ u0 u1 u2 u3 : Int, V.heap[w.heap.size + 1 + 1 + 1]? = some (.cells #[.int .u64 u0, .int .u64 u1, .int .u64 u2, .int .u64 u3] 24 (0, 0))
  b : Below w.heap.size w V

section
variable {w V V' : World} {x0 x1 x2 x3 y0 y1 y2 y3 : Int}
theorem Bs.call (h : Bs w x0 x1 x2 x3 y0 y1 y2 y3 V) (hb : Below V.heap.size V V') : Bs w x0 x1 x2 x3 y0 y1 y2 y3 V' := by
  have k : ∀ {b : Nat} {o : Obj}, V.heap[b]? = some o → V'.heap[b]? = some o := fun h => (hb.block _ (Array.getElem?_eq_some_iff.1 h).1).trans h
  obtain ⟨u0, u1, u2, u3, hr⟩ := h.r
  exact ⟨k h.x, k h.y, k h.q, ⟨u0, u1, u2, u3, k hr⟩, h.b.trans (hb.mono h.b.size)⟩

theorem Bs.lt (h : Bs w x0 x1 x2 x3 y0 y1 y2 y3 V) : w.heap.size + 1 + 1 + 1 < V.heap.size := by
  obtain ⟨u0, u1, u2, u3, hr⟩ := h.r
  exact (Array.getElem?_eq_some_iff.1 hr).1

theorem Bs.alloc (h : Bs w x0 x1 x2 x3 y0 y1 y2 y3 V) (o : Obj) : Bs w x0 x1 x2 x3 y0 y1 y2 y3 (V.alloc o) :=
  h.call ((Below.refl _ V).alloc (Nat.le_refl _) o)

theorem Bs.set {a : Addr} {v : Value} (h : Bs w x0 x1 x2 x3 y0 y1 y2 y3 V) (ha : w.heap.size + 1 + 1 + 1 < a.block) : Bs w x0 x1 x2 x3 y0 y1 y2 y3 (V.setCell a v) := by
  have k : ∀ {b : Nat} {o : Obj}, b ≤ w.heap.size + 1 + 1 + 1 → V.heap[b]? = some o → (V.setCell a v).heap[b]? = some o := fun hb h => (Below.heap_setCell V a v _ (by omega)).trans h
  obtain ⟨u0, u1, u2, u3, hr⟩ := h.r
  exact ⟨k (by omega) h.x, k (by omega) h.y, k (by omega) h.q, ⟨u0, u1, u2, u3, k (by omega) hr⟩, h.b.setCell (p := a) (by omega) v⟩

theorem Bs.setR {u0 u1 u2 u3 : Int} {z0 z1 z2 z3 : Value} {v0 v1 v2 v3 : Int} (h : Bs w x0 x1 x2 x3 y0 y1 y2 y3 V) (hr : V.heap[w.heap.size + 1 + 1 + 1]? = some (.cells #[.int .u64 u0, .int .u64 u1, .int .u64 u2, .int .u64 u3] 24 (0, 0))) (e0 : z0 = .int .u64 v0) (e1 : z1 = .int .u64 v1) (e2 : z2 = .int .u64 v2) (e3 : z3 = .int .u64 v3) :
    Bs w x0 x1 x2 x3 y0 y1 y2 y3 ((((V.setCell ⟨w.heap.size + 1 + 1 + 1, 0, none⟩ z0).setCell ⟨w.heap.size + 1 + 1 + 1, 1, none⟩ z1).setCell ⟨w.heap.size + 1 + 1 + 1, 2, none⟩ z2).setCell ⟨w.heap.size + 1 + 1 + 1, 3, none⟩ z3) := by
  subst e0 e1 e2 e3
  exact ⟨(other4 (by omega)).trans h.x, (other4 (by omega)).trans h.y, (other4 (by omega)).trans h.q, ⟨v0, v1, v2, v3, stored4 hr⟩, below_stored4 h.b (by omega)⟩

end

set_option maxHeartbeats 1000000 in
set_option maxRecDepth 100000 in
theorem divide_small (X Y : Nat) (h0 : 0 < Y) (hY : Y < 18446744073709551616) (w : World) :
    Calls Try.prog 93 #[wv X, wv Y] w fun e w' => e = .returned (.tuple #[wv (X % M256 / Y), wv (X % M256 % Y)]) ∧ Below w.heap.size w w' := by
  have hw := fun W => widen_any X W
  have hd := fun W => divideWide_small (X % M256) Y M256_lt8 h0 hY W
  obtain ⟨x0, x1, x2, x3, hX⟩ := wv_form X
  obtain ⟨y0, y1, y2, y3, hYf⟩ := wv_form Y
  obtain ⟨n0, n1, n2, n3, n4, n5, n6, n7, hN8⟩ := w8_form (X % M256)
  obtain ⟨q0, q1, q2, q3, q4, q5, q6, q7, hQ8, hQ4⟩ := w8_wv_form (X % M256 / Y)
  obtain ⟨r0, r1, r2, r3, hR4⟩ := wv_form (X % M256 % Y)
  simp only [hX, hYf, hN8, hQ8, hR4] at hw hd
  simp only [hX, hYf, hQ4, hR4]
  have HW := hideP hw
  have HD := hideP hd
  clear hX hYf hN8 hQ8 hQ4 hR4 hw hd h0 hY
  go_enter Try.func93, Try.ntmps93
  go_wp2_with fail
  go_cut [6] (fun p wx => ∃ B : Nat, p = .pointer (some ⟨B, 0, none⟩) ∧ DV w wx B q0 q1 q2 q3 q4 q5 q6 q7 r0 r1 r2 r3)
  case first =>
    have hB0 : Bs w x0 x1 x2 x3 y0 y1 y2 y3 ((((w.alloc (.cells #[.int .u64 x0, .int .u64 x1, .int .u64 x2, .int .u64 x3] 24)).alloc (.cells #[.int .u64 y0, .int .u64 y1, .int .u64 y2, .int .u64 y3] 24)).alloc (.cells #[.int .u64 0, .int .u64 0, .int .u64 0, .int .u64 0] 24)).alloc (.cells #[.int .u64 0, .int .u64 0, .int .u64 0, .int .u64 0] 24)) := by
      refine ⟨?_, heap_y _ _ _ _ _, heap_q _ _ _ _ _, ⟨0, 0, 0, 0, heap_new3 _ _ _ _ _⟩, (((((Below.refl _ w).alloc (Nat.le_refl _) _).alloc (by simp) _).alloc (by simp <;> omega) _).alloc (by simp <;> omega) _)⟩
      rw [heap_old _ _ (by simp <;> omega), heap_old _ _ (by simp <;> omega), heap_old _ _ (by simp)]
      exact heap_new _ _
    generalize ((((w.alloc (.cells #[.int .u64 x0, .int .u64 x1, .int .u64 x2, .int .u64 x3] 24)).alloc (.cells #[.int .u64 y0, .int .u64 y1, .int .u64 y2, .int .u64 y3] 24)).alloc (.cells #[.int .u64 0, .int .u64 0, .int .u64 0, .int .u64 0] 24)).alloc (.cells #[.int .u64 0, .int .u64 0, .int .u64 0, .int .u64 0] 24)) = W0 at hB0 ⊢
    have HB0 := hideP hB0
    clear hB0
    refine wp_region_heldS (S := fun V => Bs w x0 x1 x2 x3 y0 y1 y2 y3 V) (by kernel_rfl) (HB0.out.call (Below.refl _ _).drew) (fun hS => ?_)
    refine wpAnyH_take (i := 0) (v := ?_) rfl (by kernel_rfl) (by kernel_rfl) (by kernel_rfl) (fun _ _ _ h => h) (Or.inl ⟨by rfl, ?_⟩) hS ?_
    rotate_left
    · intro V hV
      obtain ⟨k0, k1, k2, k3⟩ := cells4 hV.x
      go_simp
      (try with_reducible rfl)
    simp only [Act.put, List.setIfInBounds_toArray]
    refine wpAnyH_take (i := 2) (v := ?_) rfl (by kernel_rfl) (by kernel_rfl) (by kernel_rfl) (fun _ _ _ h => h) (Or.inl ⟨by rfl, ?_⟩) hS ?_
    rotate_left
    · intro V hV
      obtain ⟨k0, k1, k2, k3⟩ := cells4 hV.y
      go_simp
      (try with_reducible rfl)
    simp only [Act.put]
    refine wpAnyH_ready (rs := [1, 7]) (by kernel_rfl) (by simp) ?_
    refine AllReadyH.cons rfl (fun K hK => ?_) (AllReadyH.cons rfl (fun K hK => ?_) AllReadyH.nil)
    · go_simp
      refine (HW.out _).mono ?_
      rintro e w1 ⟨rfl, hb1⟩
      refine hK.out _ _ (hS.call hb1) (fun hS => ?_)
      clear hK K
      refine wpAnyH_ready (rs := [3, 7]) (by kernel_rfl) (by simp) ?_
      refine AllReadyH.cons rfl (fun K hK => ?_) (AllReadyH.cons rfl (fun K hK => ?_) AllReadyH.nil)
      · go_simp
        refine (HD.out _).mono ?_
        rintro e w2 ⟨rfl, hb2⟩
        refine hK.out _ _ (hS.call hb2) (fun hS => ?_)
        clear hK K
        refine wpAnyH_take (i := 4) (v := ?_) rfl (by kernel_rfl) (by kernel_rfl) (by kernel_rfl) (fun _ _ _ h => h) (Or.inl ⟨by rfl, ?_⟩) hS ?_
        rotate_left
        · intro V hV
          go_simp
          (try with_reducible rfl)
        simp only [Act.put]
        refine wpAnyH_take (i := 5) (v := ?_) rfl (by kernel_rfl) (by kernel_rfl) (by kernel_rfl) (fun _ _ _ h => h) (Or.inl ⟨by rfl, ?_⟩) hS ?_
        rotate_left
        · intro V hV
          go_simp
          (try with_reducible rfl)
        simp only [Act.put]
        refine wpAnyH_take (i := 6) (v := ?_) rfl (by kernel_rfl) (by kernel_rfl) (by kernel_rfl) (fun _ _ _ h => h) (Or.inl ⟨by rfl, ?_⟩) hS ?_
        rotate_left
        · intro V hV
          go_simp
          (try with_reducible rfl)
        simp only [Act.put]
        refine wpAnyH_ready (rs := [7]) (by kernel_rfl) (by simp) (AllReadyH.cons rfl (fun K hK => ?_) AllReadyH.nil)
        go_simp
        obtain ⟨B, hBe⟩ : ∃ B, B = w2.heap.size := ⟨_, rfl⟩
        have hZ : (w2.alloc (.cells #[.int .u64 0, .int .u64 0, .int .u64 0, .int .u64 0, .int .u64 0, .int .u64 0, .int .u64 0, .int .u64 0] 36)).heap[B]? = some (.cells #[.int .u64 0, .int .u64 0, .int .u64 0, .int .u64 0, .int .u64 0, .int .u64 0, .int .u64 0, .int .u64 0] 36 (0, 0)) := by rw [hBe]; exact heap_new _ _
        have hBl : w.heap.size + 1 + 1 + 1 < B := by rw [hBe]; exact hS.lt
        have hSA := hS.alloc (.cells #[.int .u64 0, .int .u64 0, .int .u64 0, .int .u64 0, .int .u64 0, .int .u64 0, .int .u64 0, .int .u64 0] 36)
        rw [← hBe]
        generalize w2.alloc (.cells #[.int .u64 0, .int .u64 0, .int .u64 0, .int .u64 0, .int .u64 0, .int .u64 0, .int .u64 0, .int .u64 0] 36) = V at hZ hSA ⊢
        refine hK.out _ _ hSA (fun hS => ?_)
        clear hK K hSA hBe
        obtain ⟨a0, a1, a2, a3, a4, a5, a6, a7⟩ := cells8 hZ
        have fa : ∀ o, V.frozen? ⟨B, o, none⟩ = false := fun o => blk_free hZ
        refine wpAnyH_ready (rs := [8]) (by kernel_rfl) (by simp) (AllReadyH.cons rfl (fun K hK => ?_) AllReadyH.nil)
        go_simp
        have g8 := stored8 (z0 := .int .u64 q0) (z1 := .int .u64 q1) (z2 := .int .u64 q2) (z3 := .int .u64 q3) (z4 := .int .u64 q4) (z5 := .int .u64 q5) (z6 := .int .u64 q6) (z7 := .int .u64 q7) hZ
        have hS2 : Bs w x0 x1 x2 x3 y0 y1 y2 y3 ((((((((V.setCell ⟨B, 0, none⟩ (.int .u64 q0)).setCell ⟨B, 1, none⟩ (.int .u64 q1)).setCell ⟨B, 2, none⟩ (.int .u64 q2)).setCell ⟨B, 3, none⟩ (.int .u64 q3)).setCell ⟨B, 4, none⟩ (.int .u64 q4)).setCell ⟨B, 5, none⟩ (.int .u64 q5)).setCell ⟨B, 6, none⟩ (.int .u64 q6)).setCell ⟨B, 7, none⟩ (.int .u64 q7)) :=
          ((((((((hS.set (a := ⟨B, 0, none⟩) (v := .int .u64 q0) hBl).set (a := ⟨B, 1, none⟩) (v := .int .u64 q1) hBl).set (a := ⟨B, 2, none⟩) (v := .int .u64 q2) hBl).set (a := ⟨B, 3, none⟩) (v := .int .u64 q3) hBl).set (a := ⟨B, 4, none⟩) (v := .int .u64 q4) hBl).set (a := ⟨B, 5, none⟩) (v := .int .u64 q5) hBl).set (a := ⟨B, 6, none⟩) (v := .int .u64 q6) hBl).set (a := ⟨B, 7, none⟩) (v := .int .u64 q7) hBl)
        generalize ((((((((V.setCell ⟨B, 0, none⟩ (.int .u64 q0)).setCell ⟨B, 1, none⟩ (.int .u64 q1)).setCell ⟨B, 2, none⟩ (.int .u64 q2)).setCell ⟨B, 3, none⟩ (.int .u64 q3)).setCell ⟨B, 4, none⟩ (.int .u64 q4)).setCell ⟨B, 5, none⟩ (.int .u64 q5)).setCell ⟨B, 6, none⟩ (.int .u64 q6)).setCell ⟨B, 7, none⟩ (.int .u64 q7)) = V2 at g8 hS2 ⊢
        refine hK.out _ _ hS2 (fun hS => ?_)
        clear hK K hS2 a0 a1 a2 a3 a4 a5 a6 a7 fa hZ
        obtain ⟨u0, u1, u2, u3, hR⟩ := hS.r
        obtain ⟨b0, b1, b2, b3⟩ := cells4 hR
        have fb : ∀ o, V2.frozen? ⟨w.heap.size + 1 + 1 + 1, o, none⟩ = false := fun o => blk_free hR
        refine wpAnyH_ready (rs := [9]) (by kernel_rfl) (by simp) (AllReadyH.cons rfl (fun K hK => ?_) AllReadyH.nil)
        go_simp
        have h4 := stored4 (z0 := .int .u64 r0) (z1 := .int .u64 r1) (z2 := .int .u64 r2) (z3 := .int .u64 r3) hR
        have hS3 := Bs.setR hS hR (z0 := .int .u64 r0) (z1 := .int .u64 r1) (z2 := .int .u64 r2) (z3 := .int .u64 r3) rfl rfl rfl rfl
        have g8' := (other4 (b := w.heap.size + 1 + 1 + 1) (c := B) (z0 := .int .u64 r0) (z1 := .int .u64 r1) (z2 := .int .u64 r2) (z3 := .int .u64 r3) (by omega)).trans g8
        generalize ((((V2.setCell ⟨w.heap.size + 1 + 1 + 1, 0, none⟩ (.int .u64 r0)).setCell ⟨w.heap.size + 1 + 1 + 1, 1, none⟩ (.int .u64 r1)).setCell ⟨w.heap.size + 1 + 1 + 1, 2, none⟩ (.int .u64 r2)).setCell ⟨w.heap.size + 1 + 1 + 1, 3, none⟩ (.int .u64 r3)) = V3 at h4 hS3 g8' ⊢
        refine hK.out _ _ hS3 (fun hS => wpAnyH_done (by kernel_rfl) ?_ _)
        clear hK K
        go_wp2_with fail
        go_meet
        exact ⟨B, rfl, g8', hS3.q, h4, hBl, hS3.b⟩
      · go_simp
        obtain ⟨B, hBe⟩ : ∃ B, B = w1.heap.size := ⟨_, rfl⟩
        have hZ : (w1.alloc (.cells #[.int .u64 0, .int .u64 0, .int .u64 0, .int .u64 0, .int .u64 0, .int .u64 0, .int .u64 0, .int .u64 0] 36)).heap[B]? = some (.cells #[.int .u64 0, .int .u64 0, .int .u64 0, .int .u64 0, .int .u64 0, .int .u64 0, .int .u64 0, .int .u64 0] 36 (0, 0)) := by rw [hBe]; exact heap_new _ _
        have hBl : w.heap.size + 1 + 1 + 1 < B := by rw [hBe]; exact hS.lt
        have hSA := hS.alloc (.cells #[.int .u64 0, .int .u64 0, .int .u64 0, .int .u64 0, .int .u64 0, .int .u64 0, .int .u64 0, .int .u64 0] 36)
        rw [← hBe]
        generalize w1.alloc (.cells #[.int .u64 0, .int .u64 0, .int .u64 0, .int .u64 0, .int .u64 0, .int .u64 0, .int .u64 0, .int .u64 0] 36) = V1 at hZ hSA ⊢
        refine hK.out _ _ hSA (fun hS => ?_)
        clear hK K hSA hBe
        refine wpAnyH_ready (rs := [3]) (by kernel_rfl) (by simp) (AllReadyH.cons rfl (fun K hK => ?_) AllReadyH.nil)
        go_simp
        refine (HD.out _).mono ?_
        rintro e V ⟨rfl, hb2⟩
        refine hK.out _ _ (hS.call hb2) (fun hS => ?_)
        clear hK K
        replace hZ := (hb2.block B (Array.getElem?_eq_some_iff.1 hZ).1).trans hZ
        refine wpAnyH_take (i := 4) (v := ?_) rfl (by kernel_rfl) (by kernel_rfl) (by kernel_rfl) (fun _ _ _ h => h) (Or.inl ⟨by rfl, ?_⟩) hS ?_
        rotate_left
        · intro V hV
          go_simp
          (try with_reducible rfl)
        simp only [Act.put]
        refine wpAnyH_take (i := 5) (v := ?_) rfl (by kernel_rfl) (by kernel_rfl) (by kernel_rfl) (fun _ _ _ h => h) (Or.inl ⟨by rfl, ?_⟩) hS ?_
        rotate_left
        · intro V hV
          go_simp
          (try with_reducible rfl)
        simp only [Act.put]
        refine wpAnyH_take (i := 6) (v := ?_) rfl (by kernel_rfl) (by kernel_rfl) (by kernel_rfl) (fun _ _ _ h => h) (Or.inl ⟨by rfl, ?_⟩) hS ?_
        rotate_left
        · intro V hV
          go_simp
          (try with_reducible rfl)
        simp only [Act.put]
        obtain ⟨a0, a1, a2, a3, a4, a5, a6, a7⟩ := cells8 hZ
        have fa : ∀ o, V.frozen? ⟨B, o, none⟩ = false := fun o => blk_free hZ
        refine wpAnyH_ready (rs := [8]) (by kernel_rfl) (by simp) (AllReadyH.cons rfl (fun K hK => ?_) AllReadyH.nil)
        go_simp
        have g8 := stored8 (z0 := .int .u64 q0) (z1 := .int .u64 q1) (z2 := .int .u64 q2) (z3 := .int .u64 q3) (z4 := .int .u64 q4) (z5 := .int .u64 q5) (z6 := .int .u64 q6) (z7 := .int .u64 q7) hZ
        have hS2 : Bs w x0 x1 x2 x3 y0 y1 y2 y3 ((((((((V.setCell ⟨B, 0, none⟩ (.int .u64 q0)).setCell ⟨B, 1, none⟩ (.int .u64 q1)).setCell ⟨B, 2, none⟩ (.int .u64 q2)).setCell ⟨B, 3, none⟩ (.int .u64 q3)).setCell ⟨B, 4, none⟩ (.int .u64 q4)).setCell ⟨B, 5, none⟩ (.int .u64 q5)).setCell ⟨B, 6, none⟩ (.int .u64 q6)).setCell ⟨B, 7, none⟩ (.int .u64 q7)) :=
          ((((((((hS.set (a := ⟨B, 0, none⟩) (v := .int .u64 q0) hBl).set (a := ⟨B, 1, none⟩) (v := .int .u64 q1) hBl).set (a := ⟨B, 2, none⟩) (v := .int .u64 q2) hBl).set (a := ⟨B, 3, none⟩) (v := .int .u64 q3) hBl).set (a := ⟨B, 4, none⟩) (v := .int .u64 q4) hBl).set (a := ⟨B, 5, none⟩) (v := .int .u64 q5) hBl).set (a := ⟨B, 6, none⟩) (v := .int .u64 q6) hBl).set (a := ⟨B, 7, none⟩) (v := .int .u64 q7) hBl)
        generalize ((((((((V.setCell ⟨B, 0, none⟩ (.int .u64 q0)).setCell ⟨B, 1, none⟩ (.int .u64 q1)).setCell ⟨B, 2, none⟩ (.int .u64 q2)).setCell ⟨B, 3, none⟩ (.int .u64 q3)).setCell ⟨B, 4, none⟩ (.int .u64 q4)).setCell ⟨B, 5, none⟩ (.int .u64 q5)).setCell ⟨B, 6, none⟩ (.int .u64 q6)).setCell ⟨B, 7, none⟩ (.int .u64 q7)) = V2 at g8 hS2 ⊢
        refine hK.out _ _ hS2 (fun hS => ?_)
        clear hK K hS2 a0 a1 a2 a3 a4 a5 a6 a7 fa hZ
        obtain ⟨u0, u1, u2, u3, hR⟩ := hS.r
        obtain ⟨b0, b1, b2, b3⟩ := cells4 hR
        have fb : ∀ o, V2.frozen? ⟨w.heap.size + 1 + 1 + 1, o, none⟩ = false := fun o => blk_free hR
        refine wpAnyH_ready (rs := [9]) (by kernel_rfl) (by simp) (AllReadyH.cons rfl (fun K hK => ?_) AllReadyH.nil)
        go_simp
        have h4 := stored4 (z0 := .int .u64 r0) (z1 := .int .u64 r1) (z2 := .int .u64 r2) (z3 := .int .u64 r3) hR
        have hS3 := Bs.setR hS hR (z0 := .int .u64 r0) (z1 := .int .u64 r1) (z2 := .int .u64 r2) (z3 := .int .u64 r3) rfl rfl rfl rfl
        have g8' := (other4 (b := w.heap.size + 1 + 1 + 1) (c := B) (z0 := .int .u64 r0) (z1 := .int .u64 r1) (z2 := .int .u64 r2) (z3 := .int .u64 r3) (by omega)).trans g8
        generalize ((((V2.setCell ⟨w.heap.size + 1 + 1 + 1, 0, none⟩ (.int .u64 r0)).setCell ⟨w.heap.size + 1 + 1 + 1, 1, none⟩ (.int .u64 r1)).setCell ⟨w.heap.size + 1 + 1 + 1, 2, none⟩ (.int .u64 r2)).setCell ⟨w.heap.size + 1 + 1 + 1, 3, none⟩ (.int .u64 r3)) = V3 at h4 hS3 g8' ⊢
        refine hK.out _ _ hS3 (fun hS => wpAnyH_done (by kernel_rfl) ?_ _)
        clear hK K
        go_wp2_with fail
        go_meet
        exact ⟨B, rfl, g8', hS3.q, h4, hBl, hS3.b⟩
    · go_simp
      obtain ⟨B, hBe⟩ : ∃ B, B = W0.heap.size := ⟨_, rfl⟩
      have hZ : (W0.alloc (.cells #[.int .u64 0, .int .u64 0, .int .u64 0, .int .u64 0, .int .u64 0, .int .u64 0, .int .u64 0, .int .u64 0] 36)).drew.heap[B]? = some (.cells #[.int .u64 0, .int .u64 0, .int .u64 0, .int .u64 0, .int .u64 0, .int .u64 0, .int .u64 0, .int .u64 0] 36 (0, 0)) := by rw [hBe]; exact heap_new _ _
      have hBl : w.heap.size + 1 + 1 + 1 < B := by rw [hBe]; exact HB0.out.lt
      have hSA := (HB0.out.alloc (.cells #[.int .u64 0, .int .u64 0, .int .u64 0, .int .u64 0, .int .u64 0, .int .u64 0, .int .u64 0, .int .u64 0] 36)).call (Below.refl _ _).drew
      rw [← hBe]
      generalize (W0.alloc (.cells #[.int .u64 0, .int .u64 0, .int .u64 0, .int .u64 0, .int .u64 0, .int .u64 0, .int .u64 0, .int .u64 0] 36)).drew = V1 at hZ hSA ⊢
      refine hK.out _ _ hSA (fun hS => ?_)
      clear hK K hSA hBe
      refine wpAnyH_ready (rs := [1]) (by kernel_rfl) (by simp) (AllReadyH.cons rfl (fun K hK => ?_) AllReadyH.nil)
      go_simp
      refine (HW.out _).mono ?_
      rintro e w1 ⟨rfl, hb1⟩
      refine hK.out _ _ (hS.call hb1) (fun hS => ?_)
      clear hK K
      replace hZ := (hb1.block B (Array.getElem?_eq_some_iff.1 hZ).1).trans hZ
      refine wpAnyH_ready (rs := [3]) (by kernel_rfl) (by simp) (AllReadyH.cons rfl (fun K hK => ?_) AllReadyH.nil)
      go_simp
      refine (HD.out _).mono ?_
      rintro e V ⟨rfl, hb2⟩
      refine hK.out _ _ (hS.call hb2) (fun hS => ?_)
      clear hK K
      replace hZ := (hb2.block B (Array.getElem?_eq_some_iff.1 hZ).1).trans hZ
      refine wpAnyH_take (i := 4) (v := ?_) rfl (by kernel_rfl) (by kernel_rfl) (by kernel_rfl) (fun _ _ _ h => h) (Or.inl ⟨by rfl, ?_⟩) hS ?_
      rotate_left
      · intro V hV
        go_simp
        (try with_reducible rfl)
      simp only [Act.put]
      refine wpAnyH_take (i := 5) (v := ?_) rfl (by kernel_rfl) (by kernel_rfl) (by kernel_rfl) (fun _ _ _ h => h) (Or.inl ⟨by rfl, ?_⟩) hS ?_
      rotate_left
      · intro V hV
        go_simp
        (try with_reducible rfl)
      simp only [Act.put]
      refine wpAnyH_take (i := 6) (v := ?_) rfl (by kernel_rfl) (by kernel_rfl) (by kernel_rfl) (fun _ _ _ h => h) (Or.inl ⟨by rfl, ?_⟩) hS ?_
      rotate_left
      · intro V hV
        go_simp
        (try with_reducible rfl)
      simp only [Act.put]
      obtain ⟨a0, a1, a2, a3, a4, a5, a6, a7⟩ := cells8 hZ
      have fa : ∀ o, V.frozen? ⟨B, o, none⟩ = false := fun o => blk_free hZ
      refine wpAnyH_ready (rs := [8]) (by kernel_rfl) (by simp) (AllReadyH.cons rfl (fun K hK => ?_) AllReadyH.nil)
      go_simp
      have g8 := stored8 (z0 := .int .u64 q0) (z1 := .int .u64 q1) (z2 := .int .u64 q2) (z3 := .int .u64 q3) (z4 := .int .u64 q4) (z5 := .int .u64 q5) (z6 := .int .u64 q6) (z7 := .int .u64 q7) hZ
      have hS2 : Bs w x0 x1 x2 x3 y0 y1 y2 y3 ((((((((V.setCell ⟨B, 0, none⟩ (.int .u64 q0)).setCell ⟨B, 1, none⟩ (.int .u64 q1)).setCell ⟨B, 2, none⟩ (.int .u64 q2)).setCell ⟨B, 3, none⟩ (.int .u64 q3)).setCell ⟨B, 4, none⟩ (.int .u64 q4)).setCell ⟨B, 5, none⟩ (.int .u64 q5)).setCell ⟨B, 6, none⟩ (.int .u64 q6)).setCell ⟨B, 7, none⟩ (.int .u64 q7)) :=
        ((((((((hS.set (a := ⟨B, 0, none⟩) (v := .int .u64 q0) hBl).set (a := ⟨B, 1, none⟩) (v := .int .u64 q1) hBl).set (a := ⟨B, 2, none⟩) (v := .int .u64 q2) hBl).set (a := ⟨B, 3, none⟩) (v := .int .u64 q3) hBl).set (a := ⟨B, 4, none⟩) (v := .int .u64 q4) hBl).set (a := ⟨B, 5, none⟩) (v := .int .u64 q5) hBl).set (a := ⟨B, 6, none⟩) (v := .int .u64 q6) hBl).set (a := ⟨B, 7, none⟩) (v := .int .u64 q7) hBl)
      generalize ((((((((V.setCell ⟨B, 0, none⟩ (.int .u64 q0)).setCell ⟨B, 1, none⟩ (.int .u64 q1)).setCell ⟨B, 2, none⟩ (.int .u64 q2)).setCell ⟨B, 3, none⟩ (.int .u64 q3)).setCell ⟨B, 4, none⟩ (.int .u64 q4)).setCell ⟨B, 5, none⟩ (.int .u64 q5)).setCell ⟨B, 6, none⟩ (.int .u64 q6)).setCell ⟨B, 7, none⟩ (.int .u64 q7)) = V2 at g8 hS2 ⊢
      refine hK.out _ _ hS2 (fun hS => ?_)
      clear hK K hS2 a0 a1 a2 a3 a4 a5 a6 a7 fa hZ
      obtain ⟨u0, u1, u2, u3, hR⟩ := hS.r
      obtain ⟨b0, b1, b2, b3⟩ := cells4 hR
      have fb : ∀ o, V2.frozen? ⟨w.heap.size + 1 + 1 + 1, o, none⟩ = false := fun o => blk_free hR
      refine wpAnyH_ready (rs := [9]) (by kernel_rfl) (by simp) (AllReadyH.cons rfl (fun K hK => ?_) AllReadyH.nil)
      go_simp
      have h4 := stored4 (z0 := .int .u64 r0) (z1 := .int .u64 r1) (z2 := .int .u64 r2) (z3 := .int .u64 r3) hR
      have hS3 := Bs.setR hS hR (z0 := .int .u64 r0) (z1 := .int .u64 r1) (z2 := .int .u64 r2) (z3 := .int .u64 r3) rfl rfl rfl rfl
      have g8' := (other4 (b := w.heap.size + 1 + 1 + 1) (c := B) (z0 := .int .u64 r0) (z1 := .int .u64 r1) (z2 := .int .u64 r2) (z3 := .int .u64 r3) (by omega)).trans g8
      generalize ((((V2.setCell ⟨w.heap.size + 1 + 1 + 1, 0, none⟩ (.int .u64 r0)).setCell ⟨w.heap.size + 1 + 1 + 1, 1, none⟩ (.int .u64 r1)).setCell ⟨w.heap.size + 1 + 1 + 1, 2, none⟩ (.int .u64 r2)).setCell ⟨w.heap.size + 1 + 1 + 1, 3, none⟩ (.int .u64 r3)) = V3 at h4 hS3 g8' ⊢
      refine hK.out _ _ hS3 (fun hS => wpAnyH_done (by kernel_rfl) ?_ _)
      clear hK K
      go_wp2_with fail
      go_meet
      exact ⟨B, rfl, g8', hS3.q, h4, hBl, hS3.b⟩
  case rest =>
    obtain ⟨B, rfl, D⟩ := hcut
    have HD2 := hideP D
    have a0 : wc.cell? ⟨B, 0, none⟩ = some (.int .u64 q0) := blk_cell D.q rfl
    have a1 : wc.cell? ⟨B, 1, none⟩ = some (.int .u64 q1) := blk_cell D.q rfl
    have a2 : wc.cell? ⟨B, 2, none⟩ = some (.int .u64 q2) := blk_cell D.q rfl
    have a3 : wc.cell? ⟨B, 3, none⟩ = some (.int .u64 q3) := blk_cell D.q rfl
    have z0 : wc.cell? ⟨w.heap.size + 1 + 1, 0, none⟩ = some (.int .u64 0) := blk_cell D.z rfl
    have z1 : wc.cell? ⟨w.heap.size + 1 + 1, 1, none⟩ = some (.int .u64 0) := blk_cell D.z rfl
    have z2 : wc.cell? ⟨w.heap.size + 1 + 1, 2, none⟩ = some (.int .u64 0) := blk_cell D.z rfl
    have z3 : wc.cell? ⟨w.heap.size + 1 + 1, 3, none⟩ = some (.int .u64 0) := blk_cell D.z rfl
    have f0 : wc.frozen? ⟨w.heap.size + 1 + 1, 0, none⟩ = false := blk_free D.z
    have f1 : wc.frozen? ⟨w.heap.size + 1 + 1, 1, none⟩ = false := blk_free D.z
    have f2 : wc.frozen? ⟨w.heap.size + 1 + 1, 2, none⟩ = false := blk_free D.z
    have f3 : wc.frozen? ⟨w.heap.size + 1 + 1, 3, none⟩ = false := blk_free D.z
    have b0 : wc.cell? ⟨w.heap.size + 1 + 1 + 1, 0, none⟩ = some (.int .u64 r0) := blk_cell D.r rfl
    have b1 : wc.cell? ⟨w.heap.size + 1 + 1 + 1, 1, none⟩ = some (.int .u64 r1) := blk_cell D.r rfl
    have b2 : wc.cell? ⟨w.heap.size + 1 + 1 + 1, 2, none⟩ = some (.int .u64 r2) := blk_cell D.r rfl
    have b3 : wc.cell? ⟨w.heap.size + 1 + 1 + 1, 3, none⟩ = some (.int .u64 r3) := blk_cell D.r rfl
    have g0 : wc.frozen? ⟨w.heap.size + 1 + 1 + 1, 0, none⟩ = false := blk_free D.r
    have g1 : wc.frozen? ⟨w.heap.size + 1 + 1 + 1, 1, none⟩ = false := blk_free D.r
    have g2 : wc.frozen? ⟨w.heap.size + 1 + 1 + 1, 2, none⟩ = false := blk_free D.r
    have g3 : wc.frozen? ⟨w.heap.size + 1 + 1 + 1, 3, none⟩ = false := blk_free D.r
    have hlt := D.lt
    have n1 : ¬ (w.heap.size + 1 + 1 = B) := by omega
    have n2 : ¬ (B = w.heap.size + 1 + 1) := by omega
    clear D hlt HW HD
    go_wp2_with fail
    refine wp_loop_rounds 5 ?_
    rw [rounds_succ]
    go_wp2_with fail
    rw [rounds_succ]
    go_wp2_with fail
    rw [rounds_succ]
    go_wp2_with fail
    rw [rounds_succ]
    go_wp2_with fail
    rw [rounds_succ]
    go_wp2_with fail
    have gq := stored4 (z0 := .int .u64 q0) (z1 := .int .u64 q1) (z2 := .int .u64 q2) (z3 := .int .u64 q3) HD2.out.z
    have gr := (other4 (b := w.heap.size + 1 + 1) (c := w.heap.size + 1 + 1 + 1) (z0 := .int .u64 q0) (z1 := .int .u64 q1) (z2 := .int .u64 q2) (z3 := .int .u64 q3) (by omega)).trans HD2.out.r
    have hbl := below_stored4 (b := w.heap.size + 1 + 1) (z0 := .int .u64 q0) (z1 := .int .u64 q1) (z2 := .int .u64 q2) (z3 := .int .u64 q3) HD2.out.b (by omega)
    clear a0 z0 f0 b0 g0 a1 z1 f1 b1 g1 a2 z2 f2 b2 g2 a3 z3 f3 b3 g3 n1 n2
    generalize ((((wc.setCell ⟨w.heap.size + 1 + 1, 0, none⟩ (.int .u64 q0)).setCell ⟨w.heap.size + 1 + 1, 1, none⟩ (.int .u64 q1)).setCell ⟨w.heap.size + 1 + 1, 2, none⟩ (.int .u64 q2)).setCell ⟨w.heap.size + 1 + 1, 3, none⟩ (.int .u64 q3)) = V at gq gr hbl ⊢
    obtain ⟨c0, c1, c2, c3⟩ := cells4 gq
    obtain ⟨d0, d1, d2, d3⟩ := cells4 gr
    have f0 : V.frozen? ⟨w.heap.size + 1 + 1, 0, none⟩ = false := blk_free gq
    have f1 : V.frozen? ⟨w.heap.size + 1 + 1, 1, none⟩ = false := blk_free gq
    have f2 : V.frozen? ⟨w.heap.size + 1 + 1, 2, none⟩ = false := blk_free gq
    have f3 : V.frozen? ⟨w.heap.size + 1 + 1, 3, none⟩ = false := blk_free gq
    have g0 : V.frozen? ⟨w.heap.size + 1 + 1 + 1, 0, none⟩ = false := blk_free gr
    have g1 : V.frozen? ⟨w.heap.size + 1 + 1 + 1, 1, none⟩ = false := blk_free gr
    have g2 : V.frozen? ⟨w.heap.size + 1 + 1 + 1, 2, none⟩ = false := blk_free gr
    have g3 : V.frozen? ⟨w.heap.size + 1 + 1 + 1, 3, none⟩ = false := blk_free gr
    have GQ := hideP gq
    have GR := hideP gr
    have HBL := hideP hbl
    clear gq gr hbl
    go_region
    go_wp2_with fail
    rw [setCell_id GQ.out (o := 0) (v := .int .u64 q0) rfl, setCell_id GQ.out (o := 1) (v := .int .u64 q1) rfl, setCell_id GQ.out (o := 2) (v := .int .u64 q2) rfl, setCell_id GQ.out (o := 3) (v := .int .u64 q3) rfl, setCell_id GR.out (o := 0) (v := .int .u64 r0) rfl, setCell_id GR.out (o := 1) (v := .int .u64 r1) rfl, setCell_id GR.out (o := 2) (v := .int .u64 r2) rfl, setCell_id GR.out (o := 3) (v := .int .u64 r3) rfl]
    refine bodyPost_ret (v := .tuple #[.agg #[.int .u64 q0, .int .u64 q1, .int .u64 q2, .int .u64 q3], .agg #[.int .u64 r0, .int .u64 r1, .int .u64 r2, .int .u64 r3]]) (by simp [results, Try.results93, go_sem, c0, c1, c2, c3, d0, d1, d2, d3]) rfl ⟨rfl, HBL.out.drew⟩

end Go.Proofs.Ytpnijncoldihfaa
