/-
  A text of the base 16 that is read.
-/
import Derived.Test.YtpnijncoldihfaaTextsC15
namespace Go.Proofs.Ytpnijncoldihfaa
open Go.RowKit Go.Shelf

set_option maxHeartbeats 2000000 in
set_option maxRecDepth 100000 in
theorem cut_ff (w : World) : Calls Try.prog 113 #[.string ⟨#[48, 120, 70, 102]⟩, .string ⟨#[48, 120]⟩] w fun e w' => e = .returned (.tuple #[.string ⟨#[70, 102]⟩, .bool true]) ∧ Below w.heap.size w w' := by
  have hb : (!((⟨#[48, 120, 70, 102]⟩ : ByteArray).extract 0 2).toList == [48, 120]) = false := by decide +kernel
  have he : (⟨#[48, 120, 70, 102]⟩ : ByteArray).extract 2 4 = ⟨#[70, 102]⟩ := by decide +kernel
  go_enter Try.func113, Try.ntmps113
  go_wp2_with (first | go_in)
  go_ret2
  exact ⟨rfl, Below.refl _ _⟩

set_option maxHeartbeats 2000000 in
set_option maxRecDepth 100000 in
theorem digit_F (w : World) : Calls Try.prog 134 #[.int .u8 70] w fun e w' => e = .returned (.int .u64 15) ∧ w = w' := by
  go_enter Try.func134, Try.ntmps134
  go_wp2
  go_ret
  exact ⟨rfl, rfl⟩

set_option maxHeartbeats 2000000 in
set_option maxRecDepth 100000 in
theorem digit_f (w : World) : Calls Try.prog 134 #[.int .u8 102] w fun e w' => e = .returned (.int .u64 15) ∧ w = w' := by
  go_enter Try.func134, Try.ntmps134
  go_wp2
  go_ret
  exact ⟨rfl, rfl⟩

theorem mulLimb_small (x y a : Nat) (hy : y < 18446744073709551616) (ha : a < 18446744073709551616) (hx : x < 18446744073709551616) (hs : x * y + a < 18446744073709551616) (w : World) :
    Calls Try.prog 135 #[.agg #[.int .u64 x, .int .u64 0, .int .u64 0, .int .u64 0], .int .u64 y, .int .u64 a] w fun e w' => e = .returned (.tuple #[.agg #[.int .u64 ((x * y + a : Nat) : Int), .int .u64 0, .int .u64 0, .int .u64 0], .int .u64 0]) ∧ Below w.heap.size w w' := by
  have h := multiplyLimb_any x y a hy ha w
  rw [wv_small hx, wv_small hs] at h
  refine h.mono ?_
  rintro e w' ⟨c, rfl, hc, hb⟩
  have hM : 18446744073709551616 < M256 := by decide
  have hc0 : c = 0 := by
    rw [Nat.mod_eq_of_lt (Nat.lt_trans hx hM), Nat.mod_eq_of_lt (Nat.lt_trans hs hM)] at hc
    have : M256 * c = 0 := by omega
    rcases Nat.mul_eq_zero.1 this with h | h
    · exact absurd h (by decide)
    · exact h
  subst hc0
  exact ⟨rfl, hb⟩

set_option maxHeartbeats 2000000 in
set_option maxRecDepth 100000 in
theorem parseDigits_ff (w : World) : Calls Try.prog 125 #[.string ⟨#[70, 102]⟩, .int .u64 16] w fun e w' => e = .returned (.tuple #[wv 255, .int .i64 0]) ∧ Below w.heap.size w w' := by
  have hm0 : ∀ W, Calls Try.prog 135 #[.agg #[.int .u64 0, .int .u64 0, .int .u64 0, .int .u64 0], .int .u64 16, .int .u64 15] W fun e w' => e = .returned (.tuple #[.agg #[.int .u64 15, .int .u64 0, .int .u64 0, .int .u64 0], .int .u64 0]) ∧ Below W.heap.size W w' := fun W => mulLimb_small 0 16 15 (by omega) (by omega) (by omega) (by omega) W
  have hm1 : ∀ W, Calls Try.prog 135 #[.agg #[.int .u64 15, .int .u64 0, .int .u64 0, .int .u64 0], .int .u64 16, .int .u64 15] W fun e w' => e = .returned (.tuple #[.agg #[.int .u64 255, .int .u64 0, .int .u64 0, .int .u64 0], .int .u64 0]) ∧ Below W.heap.size W w' := fun W => mulLimb_small 15 16 15 (by omega) (by omega) (by omega) (by omega) W
  have h255 : wv 255 = .agg #[.int .u64 255, .int .u64 0, .int .u64 0, .int .u64 0] := wv_small (by omega)
  rw [h255]
  have HM0 := hideP hm0
  have HM1 := hideP hm1
  clear hm0 hm1 h255
  go_enter Try.func125, Try.ntmps125
  go_wp2_with fail
  refine wp_loop_rounds 3 ?_
  rw [rounds_succ]
  go_wp2_with fail
  refine (digit_F _).mono ?_
  rintro e w' ⟨rfl, rfl⟩
  go_wp2_with fail
  refine (HM0.out _).mono ?_
  rintro e w1 ⟨rfl, hb⟩
  have hr1 := (kept4 hb ((heap_old _ _ (by simp)).trans (heap_new _ _))).1
  obtain ⟨hx1, q0, q1, q2, q3, f0, f1, f2, f3⟩ := kept4 hb (heap_new1 _ _ _)
  have HB1 : Hid (Below w.heap.size w w1) := (((Below.refl _ w).alloc (Nat.le_refl _) _).alloc (by simp) _).trans (hb.mono (by simp <;> omega))
  have HR1 := hideP hr1
  have HX1 := hideP hx1
  clear hb hr1 hx1
  go_wp2_with fail
  have gx := stored4 (z0 := .int .u64 15) (z1 := .int .u64 0) (z2 := .int .u64 0) (z3 := .int .u64 0) HX1.out
  have gr := (other4 (b := w.heap.size + 1) (c := w.heap.size) (z0 := .int .u64 15) (z1 := .int .u64 0) (z2 := .int .u64 0) (z3 := .int .u64 0) (by omega)).trans HR1.out
  have gb := below_stored4 (b := w.heap.size + 1) (z0 := .int .u64 15) (z1 := .int .u64 0) (z2 := .int .u64 0) (z3 := .int .u64 0) HB1.out (by omega)
  clear q0 q1 q2 q3 f0 f1 f2 f3
  generalize ((((w1.setCell ⟨w.heap.size + 1, 0, none⟩ (.int .u64 15)).setCell ⟨w.heap.size + 1, 1, none⟩ (.int .u64 0)).setCell ⟨w.heap.size + 1, 2, none⟩ (.int .u64 0)).setCell ⟨w.heap.size + 1, 3, none⟩ (.int .u64 0)) = V1 at gx gr gb ⊢
  obtain ⟨c0, c1, c2, c3⟩ := cells4 gx
  have GX := hideP gx
  have GR := hideP gr
  have GB := hideP gb
  clear gx gr gb
  rw [rounds_succ]
  go_wp2_with fail
  refine (digit_f _).mono ?_
  rintro e w' ⟨rfl, rfl⟩
  go_wp2_with fail
  refine (HM1.out _).mono ?_
  rintro e w2 ⟨rfl, hb⟩
  have hr2 := (kept4 hb GR.out).1
  obtain ⟨hx2, q0, q1, q2, q3, f0, f1, f2, f3⟩ := kept4 hb GX.out
  have HB2 : Hid (Below w.heap.size w w2) := GB.out.trans (hb.mono GB.out.size)
  have HR2 := hideP hr2
  have HX2 := hideP hx2
  clear hb hr2 hx2 c0 c1 c2 c3
  go_wp2_with fail
  have gx := stored4 (z0 := .int .u64 255) (z1 := .int .u64 0) (z2 := .int .u64 0) (z3 := .int .u64 0) HX2.out
  have gr := (other4 (b := w.heap.size + 1) (c := w.heap.size) (z0 := .int .u64 255) (z1 := .int .u64 0) (z2 := .int .u64 0) (z3 := .int .u64 0) (by omega)).trans HR2.out
  have gb := below_stored4 (b := w.heap.size + 1) (z0 := .int .u64 255) (z1 := .int .u64 0) (z2 := .int .u64 0) (z3 := .int .u64 0) HB2.out (by omega)
  clear q0 q1 q2 q3 f0 f1 f2 f3
  generalize ((((w2.setCell ⟨w.heap.size + 1, 0, none⟩ (.int .u64 255)).setCell ⟨w.heap.size + 1, 1, none⟩ (.int .u64 0)).setCell ⟨w.heap.size + 1, 2, none⟩ (.int .u64 0)).setCell ⟨w.heap.size + 1, 3, none⟩ (.int .u64 0)) = V2 at gx gr gb ⊢
  obtain ⟨c0, c1, c2, c3⟩ := cells4 gx
  obtain ⟨k0, k1, k2, k3⟩ := cells4 gr
  have fr : ∀ o, V2.frozen? ⟨w.heap.size, o, none⟩ = false := fun o => blk_free gr
  have HB3 := hideP gb
  clear gx gr gb
  rw [rounds_succ]
  go_wp2_with fail
  refine bodyPost_ret (v := .tuple #[.agg #[.int .u64 255, .int .u64 0, .int .u64 0, .int .u64 0], .int .i64 0]) (by simp [results, Try.results125, go_sem, k0, k1, k2, k3, World.cell?_setCell_same]) rfl ⟨rfl, ?_⟩
  repeat first | exact HB3.out | apply Below.drew | (refine Below.alloc ?_ (by simp <;> omega) _) | (refine Below.setCell ?_ (by simp <;> omega) _)

set_option maxHeartbeats 2000000 in
set_option maxRecDepth 100000 in
theorem parseHex_ff (w : World) : Calls Try.prog 114 #[.string ⟨#[70, 102]⟩] w fun e w' => e = .returned (.tuple #[wv 255, .int .i64 0]) ∧ Below w.heap.size w w' := by
  have h2 := fun W => parseDigits_ff W
  have h255 : wv 255 = .agg #[.int .u64 255, .int .u64 0, .int .u64 0, .int .u64 0] := wv_small (by omega)
  rw [h255] at h2 ⊢
  have H2 := hideP h2
  clear h2 h255
  go_enter Try.func114, Try.ntmps114
  go_wp2_with fail
  refine (H2.out _).mono ?_
  rintro e w1 ⟨rfl, hb⟩
  have hr1 := (kept4 hb (heap_new _ _)).1
  have HB1 : Hid (Below w.heap.size w w1) := ((Below.refl _ w).alloc (Nat.le_refl _) _).trans (hb.mono (by simp))
  have HR1 := hideP hr1
  clear hb hr1
  obtain ⟨k0, k1, k2, k3⟩ := cells4 HR1.out
  have fr : ∀ o, w1.frozen? ⟨w.heap.size, o, none⟩ = false := fun o => blk_free HR1.out
  go_wp2_with fail
  refine bodyPost_ret (v := .tuple #[.agg #[.int .u64 255, .int .u64 0, .int .u64 0, .int .u64 0], .int .i64 0]) (by simp [results, Try.results114, go_sem, k0, k1, k2, k3, World.cell?_setCell_same]) rfl ⟨rfl, ?_⟩
  repeat first | exact HB1.out | apply Below.drew | (refine Below.alloc ?_ (by simp <;> omega) _) | (refine Below.setCell ?_ (by simp <;> omega) _)

set_option maxHeartbeats 2000000 in
set_option maxRecDepth 100000 in
theorem parse_ff (w : World) : Calls Try.prog 74 #[.string ⟨#[48, 120, 70, 102]⟩] w fun e w' => e = .returned (.tuple #[wv 255, .int .i64 0]) ∧ Below w.heap.size w w' := by
  have h1 := fun W => cut_ff W
  have h2 := fun W => parseHex_ff W
  have h255 : wv 255 = .agg #[.int .u64 255, .int .u64 0, .int .u64 0, .int .u64 0] := wv_small (by omega)
  rw [h255] at h2 ⊢
  have H1 := hideP h1
  have H2 := hideP h2
  clear h1 h2 h255
  go_enter Try.func74, Try.ntmps74
  go_wp2_with fail
  refine (H1.out _).mono ?_
  rintro e w1 ⟨rfl, hb⟩
  have hr1 := (kept4 hb (heap_new _ _)).1
  have HB1 : Hid (Below w.heap.size w w1) := ((Below.refl _ w).alloc (Nat.le_refl _) _).trans (hb.mono (by simp))
  have HR1 := hideP hr1
  clear hb hr1
  go_wp2_with fail
  refine (H2.out _).mono ?_
  rintro e w2 ⟨rfl, hb2⟩
  have hr2 := (kept4 hb2 HR1.out).1
  have HB2 : Hid (Below w.heap.size w w2) := HB1.out.trans (hb2.mono HB1.out.size)
  have HR2 := hideP hr2
  clear hb2 hr2
  obtain ⟨k0, k1, k2, k3⟩ := cells4 HR2.out
  have fr : ∀ o, w2.frozen? ⟨w.heap.size, o, none⟩ = false := fun o => blk_free HR2.out
  go_wp2_with fail
  refine bodyPost_ret (v := .tuple #[.agg #[.int .u64 255, .int .u64 0, .int .u64 0, .int .u64 0], .int .i64 0]) (by simp [results, Try.results74, go_sem, k0, k1, k2, k3, World.cell?_setCell_same]) rfl ⟨rfl, ?_⟩
  repeat first | exact HB2.out | apply Below.drew | (refine Below.alloc ?_ (by simp <;> omega) _) | (refine Below.setCell ?_ (by simp <;> omega) _)

end Go.Proofs.Ytpnijncoldihfaa
