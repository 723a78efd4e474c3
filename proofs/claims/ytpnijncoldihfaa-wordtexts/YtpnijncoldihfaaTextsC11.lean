/-
  Quotients by words of one limb, with and without signs; products modulo such words.
-/
import Derived.Test.YtpnijncoldihfaaTextsC09
import Derived.Test.YtpnijncoldihfaaTextsC10
namespace Go.Proofs.Ytpnijncoldihfaa
open Go.RowKit Go.Shelf

set_option maxHeartbeats 400000 in
set_option maxRecDepth 100000 in
theorem div_small (X Y : Nat) (h0 : 0 < Y) (hY : Y < 18446744073709551616) (w : World) : Calls Try.prog 33 #[wv X, wv Y] w fun e w' => e = .returned (wv (X % M256 / Y)) ∧ Below w.heap.size w w' := by
  have hc := fun W => divide_small X Y h0 hY W
  obtain ⟨x0, x1, x2, x3, hX⟩ := wv_form X
  obtain ⟨y0, y1, y2, y3, hYf⟩ := wv_form Y
  obtain ⟨z0, z1, z2, z3, hZ⟩ := wv_form (X % M256 / Y)
  obtain ⟨r0, r1, r2, r3, hR⟩ := wv_form (X % M256 % Y)
  simp only [hX, hYf, hZ, hR] at hc ⊢
  clear hX hYf hZ hR h0 hY
  go_enter Try.func33, Try.ntmps33
  go_wp2_with fail
  refine (hc _).mono ?_
  rintro e w1 ⟨rfl, hb⟩
  clear hc
  obtain ⟨hk, q0, q1, q2, q3, f0, f1, f2, f3⟩ := kept4 hb (heap_new2 _ _ _ _)
  have hsz := hb.size
  simp only [World.size_alloc] at hsz
  have hlt : w.heap.size + 1 + 1 < w1.heap.size := by omega
  have hne : ¬ (w.heap.size + 1 + 1 = w1.heap.size) := by omega
  have hne2 : ¬ (w1.heap.size = w.heap.size + 1 + 1) := by omega
  have hlt3 : w.heap.size + 1 + 1 < w1.heap.size + 1 := by omega
  have hne3 : ¬ (w.heap.size + 1 + 1 = w1.heap.size + 1) := by omega
  have hne4 : ¬ (w1.heap.size + 1 = w.heap.size + 1 + 1) := by omega
  have HB : Hid (Below w.heap.size w w1) := ((((Below.refl _ w).alloc (Nat.le_refl _) _).alloc (by simp) _).alloc (by simp <;> omega) _).trans (hb.mono (by simp <;> omega))
  clear hb hk hsz
  go_wp2
  refine bodyPost_ret (v := .agg #[.int .u64 z0, .int .u64 z1, .int .u64 z2, .int .u64 z3]) (by simp [results, Try.results33, go_sem, hlt, hlt3, q0, q1, q2, q3, World.cell?_setCell_same]) rfl ⟨rfl, ?_⟩
  repeat first | exact HB.out | apply Below.drew | (refine Below.alloc ?_ (by simp <;> omega) _) | (refine Below.setCell ?_ (by simp <;> omega) _)

set_option maxHeartbeats 400000 in
set_option maxRecDepth 100000 in
theorem size_pos (X : Nat) (hn : negB X = false) (w : World) : Calls Try.prog 96 #[wv X] w fun e w' => e = .returned (wv X) ∧ Below w.heap.size w w' := by
  have hi := fun W => isNegative_any X W
  obtain ⟨x0, x1, x2, x3, hX⟩ := wv_form X
  simp only [hX, hn] at hi ⊢
  clear hX hn
  go_enter Try.func96, Try.ntmps96
  go_wp2_with fail
  refine (hi _).mono ?_
  rintro e w1 ⟨rfl, hb⟩
  obtain ⟨hkx, cx0, cx1, cx2, cx3, _, _, _, _⟩ := kept4 hb ((heap_old _ _ (by simp)).trans (heap_new _ _))
  obtain ⟨hk, q0, q1, q2, q3, f0, f1, f2, f3⟩ := kept4 hb (heap_new1 _ _ _)
  have hsz := hb.size
  simp only [World.size_alloc] at hsz
  have HB : Hid (Below w.heap.size w w1) := (((Below.refl _ w).alloc (Nat.le_refl _) _).alloc (by simp) _).trans (hb.mono (by simp <;> omega))
  clear hb hk hkx hsz hi
  go_wp2
  refine bodyPost_ret (v := .agg #[.int .u64 x0, .int .u64 x1, .int .u64 x2, .int .u64 x3]) (by simp [results, Try.results96, go_sem, q0, q1, q2, q3, World.cell?_setCell_same]) rfl ⟨rfl, ?_⟩
  repeat first | exact HB.out | apply Below.drew | (refine Below.alloc ?_ (by simp <;> omega) _) | (refine Below.setCell ?_ (by simp <;> omega) _)

set_option maxHeartbeats 400000 in
set_option maxRecDepth 100000 in
theorem size_neg (X : Nat) (hn : negB X = true) (w : World) : Calls Try.prog 96 #[wv X] w fun e w' => e = .returned (wv (negN X)) ∧ Below w.heap.size w w' := by
  have hi := fun W => isNegative_any X W
  have hg := fun W => negate_any X W
  obtain ⟨x0, x1, x2, x3, hX⟩ := wv_form X
  obtain ⟨z0, z1, z2, z3, hZ⟩ := wv_form (negN X)
  simp only [hX, hZ, hn] at hi hg ⊢
  clear hX hZ hn
  go_enter Try.func96, Try.ntmps96
  go_wp2_with fail
  refine (hi _).mono ?_
  rintro e w1 ⟨rfl, hb⟩
  obtain ⟨hkx, cx0, cx1, cx2, cx3, _, _, _, _⟩ := kept4 hb ((heap_old _ _ (by simp)).trans (heap_new _ _))
  have HK := hideP (kept4 hb (heap_new1 _ _ _)).1
  have HB : Hid (Below w.heap.size w w1) := (((Below.refl _ w).alloc (Nat.le_refl _) _).alloc (by simp) _).trans (hb.mono (by simp <;> omega))
  clear hb hkx hi
  go_wp2_with fail
  refine (hg _).mono ?_
  rintro e w2 ⟨rfl, hb2⟩
  obtain ⟨_, k0, k1, k2, k3, h0, h1, h2, h3⟩ := kept4 hb2 HK.out
  have HB2 : Hid (Below w.heap.size w w2) := HB.out.trans (hb2.mono HB.out.size)
  clear hb2 hg cx0 cx1 cx2 cx3
  go_wp2
  refine bodyPost_ret (v := .agg #[.int .u64 z0, .int .u64 z1, .int .u64 z2, .int .u64 z3]) (by simp [results, Try.results96, go_sem, k0, k1, k2, k3, World.cell?_setCell_same]) rfl ⟨rfl, ?_⟩
  repeat first | exact HB2.out | apply Below.drew | (refine Below.alloc ?_ (by simp <;> omega) _) | (refine Below.setCell ?_ (by simp <;> omega) _)

theorem M256_sq (X Y : Nat) : X % M256 * (Y % M256) < 18446744073709551616 ^ 8 := by
  have hx : X % M256 < M256 := Nat.mod_lt _ M256_pos
  have hy : Y % M256 < M256 := Nat.mod_lt _ M256_pos
  have h : X % M256 * (Y % M256) < M256 * M256 := Nat.mul_lt_mul_of_lt_of_le hx (Nat.le_of_lt hy) (by omega)
  exact Nat.lt_of_lt_of_le h (by decide)

end Go.Proofs.Ytpnijncoldihfaa
