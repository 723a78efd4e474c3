/-
  Sums and differences of words.
-/
import Derived.Test.YtpnijncoldihfaaBackC01
namespace Go.Proofs.Ytpnijncoldihfaa
open Go.RowKit Go.Shelf

set_option maxHeartbeats 1000000 in
set_option maxRecDepth 100000 in
theorem carry_any (w : World) (X Y : Nat) :
    Calls Try.prog 16 #[wv X, wv Y] w fun e w' => ∃ c : Nat, e = .returned (.tuple #[wv (X + Y), .bool ((c : Int) == 1)]) ∧ c ≤ 1 ∧ X % M256 + Y % M256 = (X + Y) % M256 + M256 * c ∧ Below w.heap.size w w' := by
  obtain ⟨x0, x1, x2, x3, hx0, hx1, hx2, hx3, eX, hX⟩ := wv_limbs X
  obtain ⟨y0, y1, y2, y3, hy0, hy1, hy2, hy3, eY, hY⟩ := wv_limbs Y
  rw [hX, hY]
  obtain ⟨s0, c0, i0, j0, e0, k0⟩ := add64_ex0 x0 y0 hx0 hy0
  obtain ⟨s1, c1, i1, j1, e1, k1⟩ := add64_ex x1 y1 c0 hx1 hy1 j0
  obtain ⟨s2, c2, i2, j2, e2, k2⟩ := add64_ex x2 y2 c1 hx2 hy2 j1
  obtain ⟨s3, c3, i3, j3, e3, k3⟩ := add64_ex x3 y3 c2 hx3 hy3 j2
  have hs := num_add e0 e1 e2 e3
  rw [← eX, ← eY] at hs
  have hm := mod_add_eq hs (num_lt i0 i1 i2 i3)
  have HR : Hid (Value.agg #[.int .u64 s0, .int .u64 s1, .int .u64 s2, .int .u64 s3] = wv (X + Y) ∧ c3 ≤ 1 ∧ X % M256 + Y % M256 = (X + Y) % M256 + M256 * c3) :=
    ⟨wv_num i0 i1 i2 i3 hm, j3, by rw [hs, hm]⟩
  clear hs hm
  clear i0 i1 i2 i3 j0 j1 j2 j3 e0 e1 e2 e3 hx0 hx1 hx2 hx3 hy0 hy1 hy2 hy3 hX hY eX eY
  go_enter Try.func16, Try.ntmps16
  go_wp2_with (fail)
  refine wp_loop_rounds 5 ?_
  rw [rounds_succ]
  go_wp2_with (fail)
  go_region
  go_wp2_with (fail)
  rw [rounds_succ]
  go_wp2_with (fail)
  go_region
  go_wp2_with (fail)
  rw [rounds_succ]
  go_wp2_with (fail)
  go_region
  go_wp2_with (fail)
  rw [rounds_succ]
  go_wp2_with (fail)
  go_region
  go_wp2_with (fail)
  rw [rounds_succ]
  go_wp2
  refine bodyPost_ret (v := .tuple #[.agg #[.int .u64 s0, .int .u64 s1, .int .u64 s2, .int .u64 s3], .bool ((c3 : Int) == 1)]) (by simp [results, Try.results16, go_sem]) rfl ?_
  obtain ⟨r1, r2, r3⟩ := HR.out
  exact ⟨c3, by rw [r1], r2, r3, by repeat first | exact Below.refl _ _ | apply Below.drew | (refine Below.alloc ?_ (by simp <;> omega) _)⟩

set_option maxHeartbeats 1000000 in
set_option maxRecDepth 100000 in
theorem borrow_any (w : World) (X Y : Nat) :
    Calls Try.prog 17 #[wv X, wv Y] w fun e w' => ∃ c : Nat, e = .returned (.tuple #[wv (X % M256 + M256 * c - Y % M256), .bool ((c : Int) == 1)]) ∧ c ≤ 1 ∧ Y % M256 ≤ X % M256 + M256 * c ∧ X % M256 + M256 * c < Y % M256 + M256 ∧ Below w.heap.size w w' := by
  obtain ⟨x0, x1, x2, x3, hx0, hx1, hx2, hx3, eX, hX⟩ := wv_limbs X
  obtain ⟨y0, y1, y2, y3, hy0, hy1, hy2, hy3, eY, hY⟩ := wv_limbs Y
  rw [hX, hY]
  obtain ⟨s0, c0, i0, j0, e0, k0⟩ := sub64_ex0 x0 y0 hx0 hy0
  obtain ⟨s1, c1, i1, j1, e1, k1⟩ := sub64_ex x1 y1 c0 hx1 hy1 j0
  obtain ⟨s2, c2, i2, j2, e2, k2⟩ := sub64_ex x2 y2 c1 hx2 hy2 j1
  obtain ⟨s3, c3, i3, j3, e3, k3⟩ := sub64_ex x3 y3 c2 hx3 hy3 j2
  have hs := num_sub e0 e1 e2 e3
  rw [← eX, ← eY] at hs
  have hl := num_lt i0 i1 i2 i3
  have hm : X % M256 + M256 * c3 - Y % M256 = num s0 s1 s2 s3 := by rw [hs]; exact Nat.add_sub_cancel ..
  have HR : Hid (Value.agg #[.int .u64 s0, .int .u64 s1, .int .u64 s2, .int .u64 s3] = wv (X % M256 + M256 * c3 - Y % M256) ∧ c3 ≤ 1 ∧ Y % M256 ≤ X % M256 + M256 * c3 ∧ X % M256 + M256 * c3 < Y % M256 + M256) :=
    ⟨wv_num i0 i1 i2 i3 (by rw [hm, Nat.mod_eq_of_lt hl]), j3, by rw [hs]; exact Nat.le_add_left _ _, by rw [hs, Nat.add_comm]; exact Nat.add_lt_add_left hl _⟩
  clear hs hl hm
  clear i0 i1 i2 i3 j0 j1 j2 j3 e0 e1 e2 e3 hx0 hx1 hx2 hx3 hy0 hy1 hy2 hy3 hX hY eX eY
  go_enter Try.func17, Try.ntmps17
  go_wp2_with (fail)
  refine wp_loop_rounds 5 ?_
  rw [rounds_succ]
  go_wp2_with (fail)
  go_region
  go_wp2_with (fail)
  rw [rounds_succ]
  go_wp2_with (fail)
  go_region
  go_wp2_with (fail)
  rw [rounds_succ]
  go_wp2_with (fail)
  go_region
  go_wp2_with (fail)
  rw [rounds_succ]
  go_wp2_with (fail)
  go_region
  go_wp2_with (fail)
  rw [rounds_succ]
  go_wp2
  refine bodyPost_ret (v := .tuple #[.agg #[.int .u64 s0, .int .u64 s1, .int .u64 s2, .int .u64 s3], .bool ((c3 : Int) == 1)]) (by simp [results, Try.results17, go_sem]) rfl ?_
  obtain ⟨r1, r2, r3⟩ := HR.out
  exact ⟨c3, by rw [r1], r2, r3.1, r3.2, by repeat first | exact Below.refl _ _ | apply Below.drew | (refine Below.alloc ?_ (by simp <;> omega) _)⟩

/-- 0 - Y, modulo 2^256. -/
def negN (Y : Nat) : Nat := M256 - Y % M256

theorem sub_wv (X Y c : Nat) (h1 : Y % M256 ≤ X % M256 + M256 * c) : wv (X % M256 + M256 * c - Y % M256) = wv (X + negN Y) := by
  apply wv_congr
  unfold negN
  have hy : Y % M256 < M256 := Nat.mod_lt _ M256_pos
  have e : X % M256 + M256 * c - Y % M256 + M256 = X % M256 + (M256 - Y % M256) + M256 * c := by omega
  have := congrArg (· % M256) e
  simp only [Nat.add_mod_right, Nat.add_mul_mod_self_left, Nat.mod_add_mod] at this
  exact this

set_option maxHeartbeats 400000 in
set_option maxRecDepth 100000 in
theorem add_any (w : World) (X Y : Nat) : Calls Try.prog 23 #[wv X, wv Y] w fun e w' => e = .returned (wv (X + Y)) ∧ Below w.heap.size w w' := by
  have hc : ∀ w, Calls Try.prog 16 #[wv X, wv Y] w fun e w' => ∃ c : Nat, e = .returned (.tuple #[wv (X + Y), .bool ((c : Int) == 1)]) ∧ Below w.heap.size w w' := fun w =>
    (carry_any w X Y).mono fun e w' ⟨c, h1, _, _, h3⟩ => ⟨c, h1, h3⟩
  obtain ⟨x0, x1, x2, x3, hX⟩ := wv_form X
  obtain ⟨y0, y1, y2, y3, hY⟩ := wv_form Y
  obtain ⟨z0, z1, z2, z3, hZ⟩ := wv_form (X + Y)
  simp only [hX, hY, hZ] at hc ⊢
  clear hX hY hZ
  go_enter Try.func23, Try.ntmps23
  go_wp2_with fail
  refine (hc _).mono ?_
  rintro e w1 ⟨c, rfl, hb⟩
  obtain ⟨hk, q0, q1, q2, q3, f0, f1, f2, f3⟩ := kept4 hb (heap_new2 _ _ _ _)
  have hsz := hb.size
  simp only [World.size_alloc] at hsz
  have hlt : w.heap.size + 1 + 1 < w1.heap.size := by omega
  have hne : ¬ (w.heap.size + 1 + 1 = w1.heap.size) := by omega
  have hne2 : ¬ (w1.heap.size = w.heap.size + 1 + 1) := by omega
  have HB : Hid (Below w.heap.size w w1) := ((((Below.refl _ w).alloc (Nat.le_refl _) _).alloc (by simp) _).alloc (by simp <;> omega) _).trans (hb.mono (by simp <;> omega))
  clear hb hk hc hsz
  go_wp2
  refine bodyPost_ret (v := .agg #[.int .u64 z0, .int .u64 z1, .int .u64 z2, .int .u64 z3]) (by simp [results, Try.results23, go_sem, hlt, q0, q1, q2, q3, World.cell?_setCell_same]) rfl ⟨rfl, ?_⟩
  repeat first | exact HB.out | apply Below.drew | (refine Below.alloc ?_ (by simp <;> omega) _) | (refine Below.setCell ?_ (by simp <;> omega) _)

set_option maxHeartbeats 400000 in
set_option maxRecDepth 100000 in
theorem sub_any (w : World) (X Y : Nat) : Calls Try.prog 25 #[wv X, wv Y] w fun e w' => e = .returned (wv (X + negN Y)) ∧ Below w.heap.size w w' := by
  have hc : ∀ w, Calls Try.prog 17 #[wv X, wv Y] w fun e w' => ∃ c : Nat, e = .returned (.tuple #[wv (X + negN Y), .bool ((c : Int) == 1)]) ∧ Below w.heap.size w w' := fun w =>
    (borrow_any w X Y).mono fun e w' ⟨c, h1, _, h2, _, h3⟩ => ⟨c, by rw [h1, sub_wv X Y c h2], h3⟩
  obtain ⟨x0, x1, x2, x3, hX⟩ := wv_form X
  obtain ⟨y0, y1, y2, y3, hY⟩ := wv_form Y
  obtain ⟨z0, z1, z2, z3, hZ⟩ := wv_form (X + negN Y)
  simp only [hX, hY, hZ] at hc ⊢
  clear hX hY hZ
  go_enter Try.func25, Try.ntmps25
  go_wp2_with fail
  refine (hc _).mono ?_
  rintro e w1 ⟨c, rfl, hb⟩
  obtain ⟨hk, q0, q1, q2, q3, f0, f1, f2, f3⟩ := kept4 hb (heap_new2 _ _ _ _)
  have hsz := hb.size
  simp only [World.size_alloc] at hsz
  have hlt : w.heap.size + 1 + 1 < w1.heap.size := by omega
  have hne : ¬ (w.heap.size + 1 + 1 = w1.heap.size) := by omega
  have hne2 : ¬ (w1.heap.size = w.heap.size + 1 + 1) := by omega
  have HB : Hid (Below w.heap.size w w1) := ((((Below.refl _ w).alloc (Nat.le_refl _) _).alloc (by simp) _).alloc (by simp <;> omega) _).trans (hb.mono (by simp <;> omega))
  clear hb hk hc hsz
  go_wp2
  refine bodyPost_ret (v := .agg #[.int .u64 z0, .int .u64 z1, .int .u64 z2, .int .u64 z3]) (by simp [results, Try.results25, go_sem, hlt, q0, q1, q2, q3, World.cell?_setCell_same]) rfl ⟨rfl, ?_⟩
  repeat first | exact HB.out | apply Below.drew | (refine Below.alloc ?_ (by simp <;> omega) _) | (refine Below.setCell ?_ (by simp <;> omega) _)

end Go.Proofs.Ytpnijncoldihfaa
