/-
  The bytes of a word.
-/
import Derived.Test.YtpnijncoldihfaaBackC16
namespace Go.Proofs.Ytpnijncoldihfaa
open Go.RowKit Go.Shelf

/-- A byte of a number. -/
def byt (X k : Nat) : Nat := X / 2 ^ (8 * k) % 256

theorem byt_lt (X k : Nat) : byt X k < 256 := Nat.mod_lt _ (by decide)

theorem limb_byt (X k : Nat) : limb X (k / 8) / 2 ^ (8 * (k % 8)) % 256 = byt X k := by
  unfold limb byt
  have h := Nat.mod_lt k (show 0 < 8 by decide)
  have e1 : (2 : Nat) ^ (8 * k) = 18446744073709551616 ^ (k / 8) * 2 ^ (8 * (k % 8)) := by
    rw [show (18446744073709551616 : Nat) = 2 ^ 64 by decide, ← Nat.pow_mul, ← Nat.pow_add]
    congr 1
    omega
  rw [e1, ← Nat.div_div_eq_div_mul]
  generalize X / 18446744073709551616 ^ (k / 8) = x
  have e2 : (18446744073709551616 : Nat) = 2 ^ (8 * (k % 8)) * 2 ^ (64 - 8 * (k % 8)) := by
    rw [← Nat.pow_add, show 8 * (k % 8) + (64 - 8 * (k % 8)) = 64 by omega]
  rw [e2, Nat.mod_mul_right_div_self, show (256 : Nat) = 2 ^ 8 by decide]
  exact Nat.mod_mod_of_dvd _ (Nat.pow_dvd_pow 2 (by omega))

/-- Thirty-two cells. -/
def c32 (g : Nat → Nat) : Array Value := #[.int .u8 (g 0), .int .u8 (g 1), .int .u8 (g 2), .int .u8 (g 3), .int .u8 (g 4), .int .u8 (g 5), .int .u8 (g 6), .int .u8 (g 7), .int .u8 (g 8), .int .u8 (g 9), .int .u8 (g 10), .int .u8 (g 11), .int .u8 (g 12), .int .u8 (g 13), .int .u8 (g 14), .int .u8 (g 15), .int .u8 (g 16), .int .u8 (g 17), .int .u8 (g 18), .int .u8 (g 19), .int .u8 (g 20), .int .u8 (g 21), .int .u8 (g 22), .int .u8 (g 23), .int .u8 (g 24), .int .u8 (g 25), .int .u8 (g 26), .int .u8 (g 27), .int .u8 (g 28), .int .u8 (g 29), .int .u8 (g 30), .int .u8 (g 31)]

theorem get32 (g : Nat → Nat) {j : Nat} (h : j < 32) : (c32 g)[j]? = some (.int .u8 (g j)) := by
  match j, h with
  | 0, _ => rfl
  | 1, _ => rfl
  | 2, _ => rfl
  | 3, _ => rfl
  | 4, _ => rfl
  | 5, _ => rfl
  | 6, _ => rfl
  | 7, _ => rfl
  | 8, _ => rfl
  | 9, _ => rfl
  | 10, _ => rfl
  | 11, _ => rfl
  | 12, _ => rfl
  | 13, _ => rfl
  | 14, _ => rfl
  | 15, _ => rfl
  | 16, _ => rfl
  | 17, _ => rfl
  | 18, _ => rfl
  | 19, _ => rfl
  | 20, _ => rfl
  | 21, _ => rfl
  | 22, _ => rfl
  | 23, _ => rfl
  | 24, _ => rfl
  | 25, _ => rfl
  | 26, _ => rfl
  | 27, _ => rfl
  | 28, _ => rfl
  | 29, _ => rfl
  | 30, _ => rfl
  | 31, _ => rfl
  | k + 32, h => exact absurd h (by omega)

theorem set32 (g : Nat → Nat) {j : Nat} (v : Nat) (h : j < 32) : (c32 g).setIfInBounds j (.int .u8 v) = c32 (fun i => if i = j then v else g i) := by
  match j, h with
  | 0, _ => rfl
  | 1, _ => rfl
  | 2, _ => rfl
  | 3, _ => rfl
  | 4, _ => rfl
  | 5, _ => rfl
  | 6, _ => rfl
  | 7, _ => rfl
  | 8, _ => rfl
  | 9, _ => rfl
  | 10, _ => rfl
  | 11, _ => rfl
  | 12, _ => rfl
  | 13, _ => rfl
  | 14, _ => rfl
  | 15, _ => rfl
  | 16, _ => rfl
  | 17, _ => rfl
  | 18, _ => rfl
  | 19, _ => rfl
  | 20, _ => rfl
  | 21, _ => rfl
  | 22, _ => rfl
  | 23, _ => rfl
  | 24, _ => rfl
  | 25, _ => rfl
  | 26, _ => rfl
  | 27, _ => rfl
  | 28, _ => rfl
  | 29, _ => rfl
  | 30, _ => rfl
  | 31, _ => rfl
  | k + 32, h => exact absurd h (by omega)

theorem c32_congr {f g : Nat → Nat} (h : ∀ j, j < 32 → f j = g j) : c32 f = c32 g := by
  unfold c32
  rw [h 0 (by decide), h 1 (by decide), h 2 (by decide), h 3 (by decide), h 4 (by decide), h 5 (by decide), h 6 (by decide), h 7 (by decide), h 8 (by decide), h 9 (by decide), h 10 (by decide), h 11 (by decide), h 12 (by decide), h 13 (by decide), h 14 (by decide), h 15 (by decide), h 16 (by decide), h 17 (by decide), h 18 (by decide), h 19 (by decide), h 20 (by decide), h 21 (by decide), h 22 (by decide), h 23 (by decide), h 24 (by decide), h 25 (by decide), h 26 (by decide), h 27 (by decide), h 28 (by decide), h 29 (by decide), h 30 (by decide), h 31 (by decide)]

theorem under52 : Try.prog.underlying 52 = some (.array 32 5) := by kernel_rfl

theorem size52 : (Try.prog.info? 52).map (·.size) = some 32 := by kernel_rfl

theorem oneCell32 (g : Nat → Nat) : (c32 g).all (·.oneCell') = true := by simp [c32, Value.oneCell']

theorem zero32 : (#[.int .u8 0, .int .u8 0, .int .u8 0, .int .u8 0, .int .u8 0, .int .u8 0, .int .u8 0, .int .u8 0, .int .u8 0, .int .u8 0, .int .u8 0, .int .u8 0, .int .u8 0, .int .u8 0, .int .u8 0, .int .u8 0, .int .u8 0, .int .u8 0, .int .u8 0, .int .u8 0, .int .u8 0, .int .u8 0, .int .u8 0, .int .u8 0, .int .u8 0, .int .u8 0, .int .u8 0, .int .u8 0, .int .u8 0, .int .u8 0, .int .u8 0, .int .u8 0] : Array Value) = c32 (fun _ => 0) := rfl

theorem there32 {w : World} {b t : Nat} {g : Nat → Nat} (h : w.heap[b]? = some (.cells (c32 g) t (0, 0))) : w.there b 0 32 := thereOf h

/-- Where the bytes have come to. -/
structure YI (t : Nat) (w wr : World) (A k : Nat) : Prop where
  x : wr.heap[w.heap.size]? = some (.cells (c4 (limb A)) t (0, 0))
  r : wr.heap[w.heap.size + 1]? = some (.cells (c32 (fun _ => 0)) 52 (0, 0))
  o : ∃ g : Nat → Nat, wr.heap[w.heap.size + 1 + 1]? = some (.cells (c32 g) 52 (0, 0)) ∧ ∀ j, j < 32 → 32 - k ≤ j → g j = byt A (31 - j)
  b : Below w.heap.size w wr

theorem YI.put {t : Nat} {w wr : World} {A k : Nat} (I : YI t w wr A k) (hk : k < 32) : YI t w (wr.setCell ⟨w.heap.size + 1 + 1, 31 - k, none⟩ (.int .u8 (byt A k))) A (k + 1) := by
  obtain ⟨g, hg, hj⟩ := I.o
  have o1 : ∀ b, b ≠ w.heap.size + 1 + 1 → (wr.setCell ⟨w.heap.size + 1 + 1, 31 - k, none⟩ (.int .u8 (byt A k))).heap[b]? = wr.heap[b]? := fun b h => Below.heap_setCell wr _ _ b h
  refine ⟨(o1 _ (by omega)).trans I.x, (o1 _ (by omega)).trans I.r, ⟨fun i => if i = 31 - k then byt A k else g i, ?_, fun j h1 h2 => ?_⟩, I.b.setCell (p := ⟨w.heap.size + 1 + 1, 31 - k, none⟩) (by simp <;> omega) _⟩
  · have := blk_set (o := 31 - k) hg (.int .u8 (byt A k))
    rw [set32 g _ (by omega)] at this
    exact this
  · show (if j = 31 - k then byt A k else g j) = _
    by_cases h : j = 31 - k
    · rw [if_pos h, h, show 31 - (31 - k) = k by omega]
    · rw [if_neg h]; exact hj j h1 (by omega)

theorem YI.done {t : Nat} {w wr : World} {A : Nat} (I : YI t w wr A 32) : wr.heap[w.heap.size + 1 + 1]? = some (.cells (c32 (fun j => byt A (31 - j))) 52 (0, 0)) := by
  obtain ⟨g, hg, hj⟩ := I.o
  rw [hg, c32_congr (fun j h => hj j h (by omega))]

theorem YI.start (t : Nat) (w : World) (A : Nat) : YI t w (((w.alloc (.cells (c4 (limb A)) t (0, 0))).alloc (.cells (c32 (fun _ => 0)) 52 (0, 0))).alloc (.cells (c32 (fun _ => 0)) 52 (0, 0))) A 0 := by
  refine ⟨?_, ?_, ⟨fun _ => 0, ?_, fun j h1 h2 => absurd h2 (by omega)⟩, ?_⟩
  · simp only [World.alloc, Array.getElem?_push, Array.size_push]; simp [Nat.add_assoc]
  · simp only [World.alloc, Array.getElem?_push, Array.size_push]; simp
  · simp only [World.alloc, Array.getElem?_push, Array.size_push]; simp
  · repeat first | exact Below.refl _ _ | (refine Below.alloc ?_ (by simp <;> omega) _)

/-- A word's bytes. -/
def b32 (X : Nat) : Value := .agg (c32 (fun j => byt X (31 - j)))

set_option maxHeartbeats 4000000 in
set_option maxRecDepth 100000 in
theorem bytes_any (X : Nat) (w : World) : Calls Try.prog 68 #[wv X] w fun e w' => e = .returned (b32 X) ∧ Below w.heap.size w w' := by
  have HE := hideP (YI.start 24 w X)
  rw [wv_c4]
  generalize hres : b32 X = res
  have HRES := hideP hres
  clear hres
  generalize hcx : c4 (limb X) = cx at HE ⊢
  clear hcx
  rw [← zero32] at HE
  go_enter Try.func68, Try.ntmps68
  go_wp2_with fail
  generalize ((w.alloc (.cells cx 24 (0, 0))).alloc (.cells #[.int .u8 0, .int .u8 0, .int .u8 0, .int .u8 0, .int .u8 0, .int .u8 0, .int .u8 0, .int .u8 0, .int .u8 0, .int .u8 0, .int .u8 0, .int .u8 0, .int .u8 0, .int .u8 0, .int .u8 0, .int .u8 0, .int .u8 0, .int .u8 0, .int .u8 0, .int .u8 0, .int .u8 0, .int .u8 0, .int .u8 0, .int .u8 0, .int .u8 0, .int .u8 0, .int .u8 0, .int .u8 0, .int .u8 0, .int .u8 0, .int .u8 0, .int .u8 0] 52 (0, 0))).alloc (.cells #[.int .u8 0, .int .u8 0, .int .u8 0, .int .u8 0, .int .u8 0, .int .u8 0, .int .u8 0, .int .u8 0, .int .u8 0, .int .u8 0, .int .u8 0, .int .u8 0, .int .u8 0, .int .u8 0, .int .u8 0, .int .u8 0, .int .u8 0, .int .u8 0, .int .u8 0, .int .u8 0, .int .u8 0, .int .u8 0, .int .u8 0, .int .u8 0, .int .u8 0, .int .u8 0, .int .u8 0, .int .u8 0, .int .u8 0, .int .u8 0, .int .u8 0, .int .u8 0] 52 (0, 0)) = W2 at HE ⊢
  rename_i Q' K hK
  have HK := hideP hK
  clear hK
  go_loopw [5] (fun i wr => ∃ (k : Nat), k ≤ 32 ∧ i = .int .i64 k ∧ YI 24 w wr X k) (fun i _ => 32 - (intOf i).toNat)
  case atStart => exact ⟨0, Nat.zero_le _, rfl, HE.out⟩
  case round =>
    obtain ⟨k, hk, rfl, I⟩ := hrel
    have HI := hideP I
    clear I HE
    by_cases hlt : k < 32
    · have HN : Hid (k < 32) := hlt
      have cx := blk_cell HI.out.x (cget4 (limb X) (show k / 8 < 4 by omega))
      have fo : ∀ o, wr.frozen? ⟨w.heap.size + 1 + 1, o, none⟩ = false := fun o => blk_free HI.out.o.choose_spec.1
      have co := blk_cell HI.out.o.choose_spec.1 (get32 _ (show 31 - k < 32 by omega))
      have HP := hideP (HI.out.put hlt)
      have hv := limb_byt X k
      have hll := limb_lt X (k / 8)
      have hbl := byt_lt X k
      have g1 : (k : Int) < 32 := by omega
      have e0 : IntKind.i64.wrap (31 - (k : Int)) = ((31 - k : Nat) : Int) := by rw [IntKind.wrap_i64]; omega
      have g2 : ((31 - k : Nat) : Int) < 32 := by omega
      have e1 : ((k : Int)).tdiv 8 = ((k / 8 : Nat) : Int) := by rw [Int.tdiv_eq_ediv_of_nonneg (by omega)]; omega
      have e1' : IntKind.i64.wrap ((k / 8 : Nat) : Int) = ((k / 8 : Nat) : Int) := by rw [IntKind.wrap_i64]; omega
      have g3 : ((k / 8 : Nat) : Int) < 4 := by omega
      have e2 : ((k : Int)).tmod 8 = ((k % 8 : Nat) : Int) := by rw [Int.tmod_eq_emod_of_nonneg (by omega)]; omega
      have e2' : IntKind.i64.wrap ((k % 8 : Nat) : Int) = ((k % 8 : Nat) : Int) := by rw [IntKind.wrap_i64]; omega
      have e3 : IntKind.i64.wrap (8 * ((k % 8 : Nat) : Int)) = ((8 * (k % 8) : Nat) : Int) := by rw [IntKind.wrap_i64]; omega
      have e3' : IntKind.u64.wrap ((8 * (k % 8) : Nat) : Int) = ((8 * (k % 8) : Nat) : Int) := by rw [IntKind.wrap_u64]; omega
      have g4 : ((8 * (k % 8) : Nat) : Int) < 64 := by omega
      have e4 : IntKind.i64.wrap ((k : Int) + 1) = (k : Int) + 1 := by rw [IntKind.wrap_i64]; omega
      have hq : ((limb X (k / 8) : Int) / 2 ^ (8 * (k % 8))) = ((limb X (k / 8) / 2 ^ (8 * (k % 8)) : Nat) : Int) := by simp
      have e6 : ((limb X (k / 8) : Int) / 2 ^ (8 * (k % 8))).tmod 256 = ((byt X k : Nat) : Int) := by
        rw [hq, Int.tmod_eq_emod_of_nonneg (Int.natCast_nonneg _), ← hv]; rfl
      have e5 : IntKind.u8.wrap ((limb X (k / 8) : Int) / 2 ^ (8 * (k % 8))) = ((byt X k : Nat) : Int) := by
        rw [hq, IntKind.wrap_u8, ← hv]; rfl
      have e7 : IntKind.u8.wrap ((byt X k : Nat) : Int) = ((byt X k : Nat) : Int) := by rw [IntKind.wrap_u8]; omega
      clear hlt hk hv hll hbl hq
      generalize limb X (k / 8) = lx at *
      generalize byt X k = bk at *
      generalize k / 8 = kq at *
      generalize 8 * (k % 8) = sh at *
      generalize k % 8 = kr at *
      generalize 31 - k = kt at *
      go_wp2_with fail
      refine ⟨⟨k + 1, HN.out, by go_num, HP.out⟩, by have := HN.out; simp [intOf]; omega⟩
    · have hk6 : k = 32 := by omega
      subst hk6
      have g1 : ¬ ((32 : Nat) : Int) < 32 := by decide
      clear hlt hk
      go_wp2_with fail
      refine HK.out _ _ ?_
      refine endRow (C := c32 (fun j => byt X (31 - j))) rfl rfl rfl (by decide) (by show 21 < 22; decide) rfl under52 rfl size52 (oneCell32 _) (rangeOf HI.out.done) (there32 HI.out.r) ?_
      intro wS h
      exact ⟨by rw [← HRES.out]; rfl, HI.out.b.trans (h.below.mono (by omega))⟩

end Go.Proofs.Ytpnijncoldihfaa
