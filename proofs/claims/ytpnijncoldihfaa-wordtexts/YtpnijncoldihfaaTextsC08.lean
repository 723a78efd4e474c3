/-
  Division by words of one limb.
-/
import Derived.Test.YtpnijncoldihfaaTextsC07
namespace Go.Proofs.Ytpnijncoldihfaa
open Go.RowKit Go.Shelf

/-- A box of eight cells that nobody wrote. -/
theorem kept8 {W w1 : World} {b t : Nat} {u0 u1 u2 u3 u4 u5 u6 u7 : Value} (hb : Below W.heap.size W w1) (h : W.heap[b]? = some (.cells #[u0, u1, u2, u3, u4, u5, u6, u7] t (0, 0))) :
    w1.heap[b]? = some (.cells #[u0, u1, u2, u3, u4, u5, u6, u7] t (0, 0)) ∧ (w1.cell? ⟨b, 0, none⟩ = some u0 ∧ w1.cell? ⟨b, 1, none⟩ = some u1 ∧ w1.cell? ⟨b, 2, none⟩ = some u2 ∧ w1.cell? ⟨b, 3, none⟩ = some u3 ∧ w1.cell? ⟨b, 4, none⟩ = some u4 ∧ w1.cell? ⟨b, 5, none⟩ = some u5 ∧ w1.cell? ⟨b, 6, none⟩ = some u6 ∧ w1.cell? ⟨b, 7, none⟩ = some u7) ∧ ∀ o, w1.frozen? ⟨b, o, none⟩ = false := by
  have h1 := (hb.block b (Array.getElem?_eq_some_iff.1 h).1).trans h
  exact ⟨h1, ⟨blk_cell h1 rfl, blk_cell h1 rfl, blk_cell h1 rfl, blk_cell h1 rfl, blk_cell h1 rfl, blk_cell h1 rfl, blk_cell h1 rfl, blk_cell h1 rfl⟩, fun _ => blk_free h1⟩

theorem cells8 {w1 : World} {b t : Nat} {u0 u1 u2 u3 u4 u5 u6 u7 : Value} (h1 : w1.heap[b]? = some (.cells #[u0, u1, u2, u3, u4, u5, u6, u7] t (0, 0))) :
    w1.cell? ⟨b, 0, none⟩ = some u0 ∧ w1.cell? ⟨b, 1, none⟩ = some u1 ∧ w1.cell? ⟨b, 2, none⟩ = some u2 ∧ w1.cell? ⟨b, 3, none⟩ = some u3 ∧ w1.cell? ⟨b, 4, none⟩ = some u4 ∧ w1.cell? ⟨b, 5, none⟩ = some u5 ∧ w1.cell? ⟨b, 6, none⟩ = some u6 ∧ w1.cell? ⟨b, 7, none⟩ = some u7 :=
  ⟨blk_cell h1 rfl, blk_cell h1 rfl, blk_cell h1 rfl, blk_cell h1 rfl, blk_cell h1 rfl, blk_cell h1 rfl, blk_cell h1 rfl, blk_cell h1 rfl⟩

theorem stored8 {w1 : World} {b t : Nat} {u0 u1 u2 u3 u4 u5 u6 u7 z0 z1 z2 z3 z4 z5 z6 z7 : Value} (h : w1.heap[b]? = some (.cells #[u0, u1, u2, u3, u4, u5, u6, u7] t (0, 0))) :
    ((((((((w1.setCell ⟨b, 0, none⟩ z0).setCell ⟨b, 1, none⟩ z1).setCell ⟨b, 2, none⟩ z2).setCell ⟨b, 3, none⟩ z3).setCell ⟨b, 4, none⟩ z4).setCell ⟨b, 5, none⟩ z5).setCell ⟨b, 6, none⟩ z6).setCell ⟨b, 7, none⟩ z7).heap[b]? = some (.cells #[z0, z1, z2, z3, z4, z5, z6, z7] t (0, 0)) := by
  have s0 : (w1.setCell ⟨b, 0, none⟩ z0).heap[b]? = some (.cells #[z0, u1, u2, u3, u4, u5, u6, u7] t (0, 0)) := blk_set (o := 0) h z0
  have s1 : ((w1.setCell ⟨b, 0, none⟩ z0).setCell ⟨b, 1, none⟩ z1).heap[b]? = some (.cells #[z0, z1, u2, u3, u4, u5, u6, u7] t (0, 0)) := blk_set (o := 1) s0 z1
  have s2 : (((w1.setCell ⟨b, 0, none⟩ z0).setCell ⟨b, 1, none⟩ z1).setCell ⟨b, 2, none⟩ z2).heap[b]? = some (.cells #[z0, z1, z2, u3, u4, u5, u6, u7] t (0, 0)) := blk_set (o := 2) s1 z2
  have s3 : ((((w1.setCell ⟨b, 0, none⟩ z0).setCell ⟨b, 1, none⟩ z1).setCell ⟨b, 2, none⟩ z2).setCell ⟨b, 3, none⟩ z3).heap[b]? = some (.cells #[z0, z1, z2, z3, u4, u5, u6, u7] t (0, 0)) := blk_set (o := 3) s2 z3
  have s4 : (((((w1.setCell ⟨b, 0, none⟩ z0).setCell ⟨b, 1, none⟩ z1).setCell ⟨b, 2, none⟩ z2).setCell ⟨b, 3, none⟩ z3).setCell ⟨b, 4, none⟩ z4).heap[b]? = some (.cells #[z0, z1, z2, z3, z4, u5, u6, u7] t (0, 0)) := blk_set (o := 4) s3 z4
  have s5 : ((((((w1.setCell ⟨b, 0, none⟩ z0).setCell ⟨b, 1, none⟩ z1).setCell ⟨b, 2, none⟩ z2).setCell ⟨b, 3, none⟩ z3).setCell ⟨b, 4, none⟩ z4).setCell ⟨b, 5, none⟩ z5).heap[b]? = some (.cells #[z0, z1, z2, z3, z4, z5, u6, u7] t (0, 0)) := blk_set (o := 5) s4 z5
  have s6 : (((((((w1.setCell ⟨b, 0, none⟩ z0).setCell ⟨b, 1, none⟩ z1).setCell ⟨b, 2, none⟩ z2).setCell ⟨b, 3, none⟩ z3).setCell ⟨b, 4, none⟩ z4).setCell ⟨b, 5, none⟩ z5).setCell ⟨b, 6, none⟩ z6).heap[b]? = some (.cells #[z0, z1, z2, z3, z4, z5, z6, u7] t (0, 0)) := blk_set (o := 6) s5 z6
  have s7 : ((((((((w1.setCell ⟨b, 0, none⟩ z0).setCell ⟨b, 1, none⟩ z1).setCell ⟨b, 2, none⟩ z2).setCell ⟨b, 3, none⟩ z3).setCell ⟨b, 4, none⟩ z4).setCell ⟨b, 5, none⟩ z5).setCell ⟨b, 6, none⟩ z6).setCell ⟨b, 7, none⟩ z7).heap[b]? = some (.cells #[z0, z1, z2, z3, z4, z5, z6, z7] t (0, 0)) := blk_set (o := 7) s6 z7
  exact s7

theorem below_stored8 {w w1 : World} {B b : Nat} {z0 z1 z2 z3 z4 z5 z6 z7 : Value} (h : Below B w w1) (hb : B ≤ b) :
    Below B w ((((((((w1.setCell ⟨b, 0, none⟩ z0).setCell ⟨b, 1, none⟩ z1).setCell ⟨b, 2, none⟩ z2).setCell ⟨b, 3, none⟩ z3).setCell ⟨b, 4, none⟩ z4).setCell ⟨b, 5, none⟩ z5).setCell ⟨b, 6, none⟩ z6).setCell ⟨b, 7, none⟩ z7) :=
  ((((((((h.setCell (p := ⟨b, 0, none⟩) hb z0).setCell (p := ⟨b, 1, none⟩) hb z1).setCell (p := ⟨b, 2, none⟩) hb z2).setCell (p := ⟨b, 3, none⟩) hb z3).setCell (p := ⟨b, 4, none⟩) hb z4).setCell (p := ⟨b, 5, none⟩) hb z5).setCell (p := ⟨b, 6, none⟩) hb z6).setCell (p := ⟨b, 7, none⟩) hb z7)

theorem other4 {w1 : World} {b c : Nat} {z0 z1 z2 z3 : Value} (h : c ≠ b) : ((((w1.setCell ⟨b, 0, none⟩ z0).setCell ⟨b, 1, none⟩ z1).setCell ⟨b, 2, none⟩ z2).setCell ⟨b, 3, none⟩ z3).heap[c]? = w1.heap[c]? := by
  rw [Below.heap_setCell _ _ _ _ h, Below.heap_setCell _ _ _ _ h, Below.heap_setCell _ _ _ _ h, Below.heap_setCell _ _ _ _ h]

theorem other8 {w1 : World} {b c : Nat} {z0 z1 z2 z3 z4 z5 z6 z7 : Value} (h : c ≠ b) : ((((((((w1.setCell ⟨b, 0, none⟩ z0).setCell ⟨b, 1, none⟩ z1).setCell ⟨b, 2, none⟩ z2).setCell ⟨b, 3, none⟩ z3).setCell ⟨b, 4, none⟩ z4).setCell ⟨b, 5, none⟩ z5).setCell ⟨b, 6, none⟩ z6).setCell ⟨b, 7, none⟩ z7).heap[c]? = w1.heap[c]? := by
  rw [Below.heap_setCell _ _ _ _ h, Below.heap_setCell _ _ _ _ h, Below.heap_setCell _ _ _ _ h, Below.heap_setCell _ _ _ _ h, Below.heap_setCell _ _ _ _ h, Below.heap_setCell _ _ _ _ h, Below.heap_setCell _ _ _ _ h, Below.heap_setCell _ _ _ _ h]

set_option maxHeartbeats 400000 in
set_option maxRecDepth 100000 in
theorem widen_any (X : Nat) (w : World) : Calls Try.prog 101 #[wv X] w fun e w' => e = .returned (w8 (X % M256)) ∧ Below w.heap.size w w' := by
  obtain ⟨x0, x1, x2, x3, h0, h1, h2, h3, eX, hX⟩ := wv_limbs X
  have hr : Value.agg #[.int .u64 x0, .int .u64 x1, .int .u64 x2, .int .u64 x3, .int .u64 0, .int .u64 0, .int .u64 0, .int .u64 0] = w8 (X % M256) := by
    refine w8_mk (e := 0) (f := 0) (g := 0) (h := 0) (k := 0) h0 h1 h2 h3 (by omega) (by omega) (by omega) (by omega) ?_
    rw [eX]; rfl
  have HR := hideP hr
  rw [hX]
  clear hr hX eX h0 h1 h2 h3
  go_enter Try.func101, Try.ntmps101
  go_wp2_with fail
  refine bodyPost_ret (v := .agg #[.int .u64 x0, .int .u64 x1, .int .u64 x2, .int .u64 x3, .int .u64 0, .int .u64 0, .int .u64 0, .int .u64 0]) (by simp [results, Try.results101, go_sem]) rfl ⟨by rw [HR.out], ?_⟩
  repeat first | exact Below.refl _ _ | apply Below.drew | (refine Below.alloc ?_ (by simp <;> omega) _) | (refine Below.setCell ?_ (by simp <;> omega) _)

/-- A number of eight limbs, written out. -/
theorem w8_form (N : Nat) : ∃ q0 q1 q2 q3 q4 q5 q6 q7 : Int, w8 N = .agg #[.int .u64 q0, .int .u64 q1, .int .u64 q2, .int .u64 q3, .int .u64 q4, .int .u64 q5, .int .u64 q6, .int .u64 q7] := ⟨_, _, _, _, _, _, _, _, rfl⟩

theorem wv_small {Y : Nat} (h : Y < 18446744073709551616) : wv Y = .agg #[.int .u64 Y, .int .u64 0, .int .u64 0, .int .u64 0] :=
  (wv_eq (s1 := 0) (s2 := 0) (s3 := 0) (k := 0) h (by omega) (by omega) (by omega) (by omega)).symm

theorem heap_y (w : World) (a b c d : Obj) : ((((w.alloc a).alloc b).alloc c).alloc d).heap[w.heap.size + 1]? = some b := by
  rw [heap_old _ _ (by simp <;> omega), heap_old _ _ (by simp)]
  exact heap_new1 _ _ _

theorem heap_q (w : World) (a b c d : Obj) : ((((w.alloc a).alloc b).alloc c).alloc d).heap[w.heap.size + 1 + 1]? = some c := by
  rw [heap_old _ _ (by simp <;> omega)]
  exact heap_new2 _ _ _ _

set_option maxHeartbeats 1000000 in
set_option maxRecDepth 100000 in
theorem divideWide_small (N Y : Nat) (hN : N < 18446744073709551616 ^ 8) (h0 : 0 < Y) (hY : Y < 18446744073709551616) (w : World) :
    Calls Try.prog 102 #[w8 N, wv Y] w fun e w' => e = .returned (.tuple #[w8 (N / Y), wv (N % Y)]) ∧ Below w.heap.size w w' := by
  have hd := fun W => divideByLimb_any N Y hN h0 hY W
  obtain ⟨n0, n1, n2, n3, n4, n5, n6, n7, hN8⟩ := w8_form N
  obtain ⟨q0, q1, q2, q3, q4, q5, q6, q7, hQ8⟩ := w8_form (N / Y)
  obtain ⟨r0, r1, r2, r3, hR4⟩ := wv_form (N % Y)
  simp only [hN8, hQ8, hR4] at hd ⊢
  rw [wv_small hY]
  have hu := fun W (h : ∀ j, j < 4 → W.cell? ⟨w.heap.size + 1, j, none⟩ = some (.int .u64 ((if j = 0 then Y else 0 : Nat) : Int))) => used_any W (w.heap.size + 1) 4 4 (fun j => if j = 0 then Y else 0) (by omega) h
  have HD := hideP hd
  have HU := hideP hu
  have HY : Hid (0 < Y) := h0
  clear hN8 hQ8 hR4 hN hY hd hu h0
  go_enter Try.func102, Try.ntmps102
  go_wp2_with fail
  refine (HU.out _ (fun j hj => ?_)).mono ?_
  · match j, hj with
    | 0, _ => exact blk_cell (heap_y _ _ _ _ _) rfl
    | 1, _ => exact blk_cell (heap_y _ _ _ _ _) rfl
    | 2, _ => exact blk_cell (heap_y _ _ _ _ _) rfl
    | 3, _ => exact blk_cell (heap_y _ _ _ _ _) rfl
  rintro e W1 ⟨⟨k, rfl, hk, hz, hnz⟩, rfl⟩
  have hk1 : k = 1 := by
    have h0 := HY.out
    by_cases h : k = 0
    · subst h
      have := hz 0 (by omega) (by omega)
      simp at this
      omega
    · have := hnz (by omega)
      by_cases h2 : k - 1 = 0
      · omega
      · simp [h2] at this
  subst hk1
  clear hz hnz hk
  go_wp2_with fail
  refine (HD.out _).mono ?_
  rintro e w1 ⟨rfl, hb⟩
  obtain ⟨hk8, ⟨a0, a1, a2, a3, a4, a5, a6, a7⟩, fa⟩ := kept8 hb (heap_q _ _ _ _ _)
  obtain ⟨hk4, b0, b1, b2, b3, fb0, fb1, fb2, fb3⟩ := kept4 hb (heap_new3 _ _ _ _ _)
  have hsz := hb.size
  simp only [World.size_alloc] at hsz
  have hlt : w.heap.size + 1 + 1 < w1.heap.size := by omega
  have hlt2 : w.heap.size + 1 + 1 + 1 < w1.heap.size := by omega
  have HB : Hid (Below w.heap.size w w1) := (((((Below.refl _ w).alloc (Nat.le_refl _) _).alloc (by simp) _).alloc (by simp <;> omega) _).alloc (by simp <;> omega) _).trans (hb.mono (by simp <;> omega))
  have H8 := hideP hk8
  have H4 := hideP hk4
  clear hb hk8 hk4 hsz
  go_wp2_with fail
  have g8 := stored8 (z0 := .int .u64 q0) (z1 := .int .u64 q1) (z2 := .int .u64 q2) (z3 := .int .u64 q3) (z4 := .int .u64 q4) (z5 := .int .u64 q5) (z6 := .int .u64 q6) (z7 := .int .u64 q7) H8.out
  have g4 := stored4 (z0 := .int .u64 r0) (z1 := .int .u64 r1) (z2 := .int .u64 r2) (z3 := .int .u64 r3) ((other8 (b := w.heap.size + 1 + 1) (c := w.heap.size + 1 + 1 + 1) (z0 := .int .u64 q0) (z1 := .int .u64 q1) (z2 := .int .u64 q2) (z3 := .int .u64 q3) (z4 := .int .u64 q4) (z5 := .int .u64 q5) (z6 := .int .u64 q6) (z7 := .int .u64 q7) (by omega)).trans H4.out)
  have g8' := (other4 (b := w.heap.size + 1 + 1 + 1) (c := w.heap.size + 1 + 1) (z0 := .int .u64 r0) (z1 := .int .u64 r1) (z2 := .int .u64 r2) (z3 := .int .u64 r3) (by omega)).trans g8
  have hbl := below_stored4 (b := w.heap.size + 1 + 1 + 1) (z0 := .int .u64 r0) (z1 := .int .u64 r1) (z2 := .int .u64 r2) (z3 := .int .u64 r3) (below_stored8 (b := w.heap.size + 1 + 1) (z0 := .int .u64 q0) (z1 := .int .u64 q1) (z2 := .int .u64 q2) (z3 := .int .u64 q3) (z4 := .int .u64 q4) (z5 := .int .u64 q5) (z6 := .int .u64 q6) (z7 := .int .u64 q7) HB.out (by omega)) (by omega)
  clear a0 a1 a2 a3 a4 a5 a6 a7 b0 b1 b2 b3 fb0 fb1 fb2 fb3 fa g8
  generalize ((((((((((((w1.setCell ⟨w.heap.size + 1 + 1, 0, none⟩ (.int .u64 q0)).setCell ⟨w.heap.size + 1 + 1, 1, none⟩ (.int .u64 q1)).setCell ⟨w.heap.size + 1 + 1, 2, none⟩ (.int .u64 q2)).setCell ⟨w.heap.size + 1 + 1, 3, none⟩ (.int .u64 q3)).setCell ⟨w.heap.size + 1 + 1, 4, none⟩ (.int .u64 q4)).setCell ⟨w.heap.size + 1 + 1, 5, none⟩ (.int .u64 q5)).setCell ⟨w.heap.size + 1 + 1, 6, none⟩ (.int .u64 q6)).setCell ⟨w.heap.size + 1 + 1, 7, none⟩ (.int .u64 q7)).setCell ⟨w.heap.size + 1 + 1 + 1, 0, none⟩ (.int .u64 r0)).setCell ⟨w.heap.size + 1 + 1 + 1, 1, none⟩ (.int .u64 r1)).setCell ⟨w.heap.size + 1 + 1 + 1, 2, none⟩ (.int .u64 r2)).setCell ⟨w.heap.size + 1 + 1 + 1, 3, none⟩ (.int .u64 r3)) = V at g4 g8' hbl ⊢
  obtain ⟨a0, a1, a2, a3, a4, a5, a6, a7⟩ := cells8 g8'
  obtain ⟨b0, b1, b2, b3⟩ := cells4 g4
  refine bodyPost_ret (v := .tuple #[.agg #[.int .u64 q0, .int .u64 q1, .int .u64 q2, .int .u64 q3, .int .u64 q4, .int .u64 q5, .int .u64 q6, .int .u64 q7], .agg #[.int .u64 r0, .int .u64 r1, .int .u64 r2, .int .u64 r3]]) (by simp [results, Try.results102, go_sem, a0, a1, a2, a3, a4, a5, a6, a7, b0, b1, b2, b3]) rfl ⟨rfl, hbl⟩

end Go.Proofs.Ytpnijncoldihfaa
