/-
  A word as an int, if it is below an end.
-/
import Derived.Test.YtpnijncoldihfaaTextsC22
import Derived.Test.YtpnijncoldihfaaTextsC23
import Derived.Test.YtpnijncoldihfaaTextsC21
namespace Go.Proofs.Ytpnijncoldihfaa
open Go.RowKit Go.Shelf

/-- Where a word that is put together bit by bit has come to. -/
structure BI (w wr : World) (bx br O A V : Nat) : Prop where
  x : wr.heap[bx]? = some (.cells (c4 (limb A)) 23 (0, 0))
  r : wr.heap[br]? = some (.cells (c4 (fun _ => 0)) 23 (0, 0))
  o : wr.heap[O]? = some (.cells (c4 (limb V)) 23 (0, 0))
  n1 : O ≠ bx
  n2 : O ≠ br
  h1 : w.heap.size ≤ br
  h2 : w.heap.size ≤ O
  b : Below w.heap.size w wr

theorem BI.drew {w wr : World} {bx br O A V : Nat} (I : BI w wr bx br O A V) : BI w wr.drew bx br O A V := ⟨I.x, I.r, I.o, I.n1, I.n2, I.h1, I.h2, I.b.drew⟩

theorem BI.call {w wr w' : World} {bx br O A V : Nat} (I : BI w wr bx br O A V) (h : Below wr.heap.size wr w') : BI w w' bx br O A V :=
  ⟨(h.block _ (lt_of_block I.x)).trans I.x, (h.block _ (lt_of_block I.r)).trans I.r, (h.block _ (lt_of_block I.o)).trans I.o, I.n1, I.n2, I.h1, I.h2, I.b.trans (h.mono I.b.size)⟩

theorem BI.put {w wr : World} {bx br O A V : Nat} (I : BI w wr bx br O A V) (V' : Nat) : BI w (wr.setCells O 0 (c4 (limb V')).toList) bx br O A V' := by
  have h := But.sets (c4 (limb V')).toList 0 (But.refl O wr)
  have ho := blk_sets (c4 (limb V')).toList 0 I.o
  rw [putAll4] at ho
  exact ⟨(h.same _ (Ne.symm I.n1)).trans I.x, (h.same _ (Ne.symm I.n2)).trans I.r, ho, I.n1, I.n2, I.h1, I.h2, I.b.trans (h.below.mono I.h2)⟩

theorem limb_nought : limb 0 = fun _ => 0 := by funext j; simp [limb]

end Go.Proofs.Ytpnijncoldihfaa

namespace Go.Proofs.Ytpnijncoldihfaa
open Go.RowKit Go.Shelf

/-- A byte of a number. -/
def byt (X k : Nat) : Nat := X / 2 ^ (8 * k) % 256

/-- Thirty-two cells. -/
def c32 (g : Nat → Nat) : Array Value := #[.int .u8 (g 0), .int .u8 (g 1), .int .u8 (g 2), .int .u8 (g 3), .int .u8 (g 4), .int .u8 (g 5), .int .u8 (g 6), .int .u8 (g 7), .int .u8 (g 8), .int .u8 (g 9), .int .u8 (g 10), .int .u8 (g 11), .int .u8 (g 12), .int .u8 (g 13), .int .u8 (g 14), .int .u8 (g 15), .int .u8 (g 16), .int .u8 (g 17), .int .u8 (g 18), .int .u8 (g 19), .int .u8 (g 20), .int .u8 (g 21), .int .u8 (g 22), .int .u8 (g 23), .int .u8 (g 24), .int .u8 (g 25), .int .u8 (g 26), .int .u8 (g 27), .int .u8 (g 28), .int .u8 (g 29), .int .u8 (g 30), .int .u8 (g 31)]

theorem set32 (g : Nat → Nat) {j : Nat} (v : Nat) (h : j < 32) : (c32 g).setIfInBounds j (.int .u8 v) = c32 (fun i => if i = j then v else g i) := by
  match j, h with
  | 0, _ => rfl
  | 1, _ => rfl
  | 2, _ => rfl
  | 3, _ => rfl
  | 4, _ => rfl
  | 5, _ => rfl
  | 6, _ => rfl
  | 7, _ => rfl
  | 8, _ => rfl
  | 9, _ => rfl
  | 10, _ => rfl
  | 11, _ => rfl
  | 12, _ => rfl
  | 13, _ => rfl
  | 14, _ => rfl
  | 15, _ => rfl
  | 16, _ => rfl
  | 17, _ => rfl
  | 18, _ => rfl
  | 19, _ => rfl
  | 20, _ => rfl
  | 21, _ => rfl
  | 22, _ => rfl
  | 23, _ => rfl
  | 24, _ => rfl
  | 25, _ => rfl
  | 26, _ => rfl
  | 27, _ => rfl
  | 28, _ => rfl
  | 29, _ => rfl
  | 30, _ => rfl
  | 31, _ => rfl
  | k + 32, h => exact absurd h (by omega)

theorem c32_congr {f g : Nat → Nat} (h : ∀ j, j < 32 → f j = g j) : c32 f = c32 g := by
  unfold c32
  rw [h 0 (by decide), h 1 (by decide), h 2 (by decide), h 3 (by decide), h 4 (by decide), h 5 (by decide), h 6 (by decide), h 7 (by decide), h 8 (by decide), h 9 (by decide), h 10 (by decide), h 11 (by decide), h 12 (by decide), h 13 (by decide), h 14 (by decide), h 15 (by decide), h 16 (by decide), h 17 (by decide), h 18 (by decide), h 19 (by decide), h 20 (by decide), h 21 (by decide), h 22 (by decide), h 23 (by decide), h 24 (by decide), h 25 (by decide), h 26 (by decide), h 27 (by decide), h 28 (by decide), h 29 (by decide), h 30 (by decide), h 31 (by decide)]

/-- Where the bytes have come to. -/
structure YI (t : Nat) (w wr : World) (A k : Nat) : Prop where
  x : wr.heap[w.heap.size]? = some (.cells (c4 (limb A)) t (0, 0))
  r : wr.heap[w.heap.size + 1]? = some (.cells (c32 (fun _ => 0)) 52 (0, 0))
  o : ∃ g : Nat → Nat, wr.heap[w.heap.size + 1 + 1]? = some (.cells (c32 g) 52 (0, 0)) ∧ ∀ j, j < 32 → 32 - k ≤ j → g j = byt A (31 - j)
  b : Below w.heap.size w wr

theorem YI.put {t : Nat} {w wr : World} {A k : Nat} (I : YI t w wr A k) (hk : k < 32) : YI t w (wr.setCell ⟨w.heap.size + 1 + 1, 31 - k, none⟩ (.int .u8 (byt A k))) A (k + 1) := by
  obtain ⟨g, hg, hj⟩ := I.o
  have o1 : ∀ b, b ≠ w.heap.size + 1 + 1 → (wr.setCell ⟨w.heap.size + 1 + 1, 31 - k, none⟩ (.int .u8 (byt A k))).heap[b]? = wr.heap[b]? := fun b h => Below.heap_setCell wr _ _ b h
  refine ⟨(o1 _ (by omega)).trans I.x, (o1 _ (by omega)).trans I.r, ⟨fun i => if i = 31 - k then byt A k else g i, ?_, fun j h1 h2 => ?_⟩, I.b.setCell (p := ⟨w.heap.size + 1 + 1, 31 - k, none⟩) (by simp <;> omega) _⟩
  · have := blk_set (o := 31 - k) hg (.int .u8 (byt A k))
    rw [set32 g _ (by omega)] at this
    exact this
  · show (if j = 31 - k then byt A k else g j) = _
    by_cases h : j = 31 - k
    · rw [if_pos h, h, show 31 - (31 - k) = k by omega]
    · rw [if_neg h]; exact hj j h1 (by omega)

theorem YI.done {t : Nat} {w wr : World} {A : Nat} (I : YI t w wr A 32) : wr.heap[w.heap.size + 1 + 1]? = some (.cells (c32 (fun j => byt A (31 - j))) 52 (0, 0)) := by
  obtain ⟨g, hg, hj⟩ := I.o
  rw [hg, c32_congr (fun j h => hj j h (by omega))]

theorem YI.start (t : Nat) (w : World) (A : Nat) : YI t w (((w.alloc (.cells (c4 (limb A)) t (0, 0))).alloc (.cells (c32 (fun _ => 0)) 52 (0, 0))).alloc (.cells (c32 (fun _ => 0)) 52 (0, 0))) A 0 := by
  refine ⟨?_, ?_, ⟨fun _ => 0, ?_, fun j h1 h2 => absurd h2 (by omega)⟩, ?_⟩
  · simp only [World.alloc, Array.getElem?_push, Array.size_push]; simp [Nat.add_assoc]
  · simp only [World.alloc, Array.getElem?_push, Array.size_push]; simp
  · simp only [World.alloc, Array.getElem?_push, Array.size_push]; simp
  · repeat first | exact Below.refl _ _ | (refine Below.alloc ?_ (by simp <;> omega) _)

end Go.Proofs.Ytpnijncoldihfaa

namespace Go.Proofs.Ytpnijncoldihfaa
open Go.RowKit Go.Shelf

theorem small_limbs {x0 x1 x2 x3 e : Nat} (he : e < 18446744073709551616) (h : num x0 x1 x2 x3 < e) : num x0 x1 x2 x3 = x0 ∧ x0 < e := by
  unfold num at *
  omega

theorem small_mod {e : Nat} (he : e < 18446744073709551616) : e % M256 = e := Nat.mod_eq_of_lt (by unfold M256; omega)

set_option maxHeartbeats 1000000 in
set_option maxRecDepth 100000 in
theorem within_in (N en : Nat) (he : en < 9223372036854775808) (h : N % M256 < en) (w : World) : Calls Try.prog 104 #[wv N, .int .i64 en] w fun e w' => e = .returned (.tuple #[.int .i64 ((N % M256 : Nat) : Int), .bool true]) ∧ Below w.heap.size w w' := by
  have hof := fun W => of_any en (by omega) W
  have hcm := fun W => cmp_any N en W
  rw [small_mod (by omega : en < 18446744073709551616)] at hcm
  rw [cmpI_lt h] at hcm
  have hwe : IntKind.u64.wrap (en : Int) = en := by rw [IntKind.wrap_u64]; omega
  obtain ⟨x0, x1, x2, x3, h0, h1, h2, h3, eX, hX⟩ := wv_limbs N
  rw [eX] at h ⊢
  obtain ⟨hn, hlt⟩ := small_limbs (by omega) h
  rw [hn]
  have hwi : IntKind.i64.wrap (x0 : Int) = x0 := by rw [IntKind.wrap_i64]; omega
  obtain ⟨e0, e1, e2, e3, hE⟩ := wv_form en
  simp only [hX, hE] at hof hcm ⊢
  have HOF := hideP hof
  have HCM := hideP hcm
  clear hof hcm hX hE h h1 h2 h3 h0 eX hn hlt he
  go_enter Try.func104, Try.ntmps104
  go_wp2_with fail
  refine at_world (fun W0 hW0 => ?_)
  have cx0 : W0.cell? ⟨w.heap.size, 0, none⟩ = some (.int .u64 x0) := by rw [hW0]; simp
  have cx1 : W0.cell? ⟨w.heap.size, 1, none⟩ = some (.int .u64 x1) := by rw [hW0]; simp
  have cx2 : W0.cell? ⟨w.heap.size, 2, none⟩ = some (.int .u64 x2) := by rw [hW0]; simp
  have cx3 : W0.cell? ⟨w.heap.size, 3, none⟩ = some (.int .u64 x3) := by rw [hW0]; simp
  have hlx : w.heap.size < W0.heap.size := by rw [hW0]; simp
  have HB : Hid (Below w.heap.size w W0) := by
    show Below _ _ _
    rw [hW0]
    repeat first | exact Below.refl _ _ | apply Below.drew | (refine Below.alloc ?_ (by simp <;> omega) _) | (refine Below.setCell ?_ (by simp <;> omega) _)
  clear hW0
  refine wp_region_heldS (S := fun V => Below W0.heap.size W0 V) (by kernel_rfl) (Below.refl _ _).drew (fun hS => ?_)
  refine wpAnyH_take (i := 0) (v := ?_) rfl (by kernel_rfl) (by kernel_rfl) (by kernel_rfl) (fun _ _ _ h => h) (Or.inl ⟨by rfl, ?_⟩) hS ?_
  rotate_left
  · intro V hV
    have k0 := (hV.cell (p := ⟨w.heap.size, 0, none⟩) hlx).trans cx0
    have k1 := (hV.cell (p := ⟨w.heap.size, 1, none⟩) hlx).trans cx1
    have k2 := (hV.cell (p := ⟨w.heap.size, 2, none⟩) hlx).trans cx2
    have k3 := (hV.cell (p := ⟨w.heap.size, 3, none⟩) hlx).trans cx3
    go_simp
    (try with_reducible rfl)
  simp only [Act.put, List.setIfInBounds_toArray]
  refine wpAnyH_take (i := 1) (v := ?_) rfl (by kernel_rfl) (by kernel_rfl) (by kernel_rfl) (fun _ _ _ h => h) (Or.inl ⟨by rfl, ?_⟩) hS ?_
  rotate_left
  · intro V hV
    go_simp
    (try with_reducible rfl)
  simp only [Act.put]
  refine wpAnyH_take (i := 2) (v := ?_) rfl (by kernel_rfl) (by kernel_rfl) (by kernel_rfl) (fun _ _ _ h => h) (Or.inl ⟨by rfl, ?_⟩) hS ?_
  rotate_left
  · intro V hV
    go_simp
    (try with_reducible rfl)
  simp only [Act.put]
  refine wpAnyH_ready (rs := [3]) (by kernel_rfl) (by simp) (AllReadyH.cons rfl (fun K hK => ?_) AllReadyH.nil)
  go_simp
  refine (HOF.out _).mono ?_
  rintro e U1 ⟨rfl, hbc⟩
  refine hK.out _ _ (hS.trans (hbc.mono hS.size)) (fun hS => ?_)
  clear hK K hbc
  refine wpAnyH_ready (rs := [4]) (by kernel_rfl) (by simp) (AllReadyH.cons rfl (fun K hK => ?_) AllReadyH.nil)
  go_simp
  refine (HCM.out _).mono ?_
  rintro e U2 ⟨rfl, hbc⟩
  refine hK.out _ _ (hS.trans (hbc.mono hS.size)) (fun hS => ?_)
  clear hK K hbc
  refine wpAnyH_take (i := 5) (v := ?_) rfl (by kernel_rfl) (by kernel_rfl) (by kernel_rfl) (fun _ _ _ h => h) (Or.inl ⟨by rfl, ?_⟩) hS ?_
  rotate_left
  · intro V hV
    go_simp
    (try with_reducible rfl)
  simp only [Act.put]
  refine wpAnyH_done (by kernel_rfl) ?_ _
  have k0 := (hS.cell (p := ⟨w.heap.size, 0, none⟩) hlx).trans cx0
  go_wp2
  go_ret2
  exact ⟨rfl, HB.out.trans (hS.mono HB.out.size)⟩

set_option maxHeartbeats 1000000 in
set_option maxRecDepth 100000 in
theorem within_out (N en : Nat) (he : en < 9223372036854775808) (h : en ≤ N % M256) (w : World) : Calls Try.prog 104 #[wv N, .int .i64 en] w fun e w' => e = .returned (.tuple #[.int .i64 0, .bool false]) ∧ Below w.heap.size w w' := by
  rcases Nat.lt_or_eq_of_le h with h | h
  · have hof := fun W => of_any en (by omega) W
    have hcm := fun W => cmp_any N en W
    rw [small_mod (by omega : en < 18446744073709551616)] at hcm
    rw [cmpI_gt h] at hcm
    have hwe : IntKind.u64.wrap (en : Int) = en := by rw [IntKind.wrap_u64]; omega
    obtain ⟨x0, x1, x2, x3, hX⟩ := wv_form N
    obtain ⟨e0, e1, e2, e3, hE⟩ := wv_form en
    simp only [hX, hE] at hof hcm ⊢
    have HOF := hideP hof
    have HCM := hideP hcm
    clear hof hcm hX hE he h
    go_enter Try.func104, Try.ntmps104
    go_wp2_with fail
    refine at_world (fun W0 hW0 => ?_)
    have cx0 : W0.cell? ⟨w.heap.size, 0, none⟩ = some (.int .u64 x0) := by rw [hW0]; simp
    have cx1 : W0.cell? ⟨w.heap.size, 1, none⟩ = some (.int .u64 x1) := by rw [hW0]; simp
    have cx2 : W0.cell? ⟨w.heap.size, 2, none⟩ = some (.int .u64 x2) := by rw [hW0]; simp
    have cx3 : W0.cell? ⟨w.heap.size, 3, none⟩ = some (.int .u64 x3) := by rw [hW0]; simp
    have hlx : w.heap.size < W0.heap.size := by rw [hW0]; simp
    have HB : Hid (Below w.heap.size w W0) := by
      show Below _ _ _
      rw [hW0]
      repeat first | exact Below.refl _ _ | apply Below.drew | (refine Below.alloc ?_ (by simp <;> omega) _) | (refine Below.setCell ?_ (by simp <;> omega) _)
    clear hW0
    refine wp_region_heldS (S := fun V => Below W0.heap.size W0 V) (by kernel_rfl) (Below.refl _ _).drew (fun hS => ?_)
    refine wpAnyH_take (i := 0) (v := ?_) rfl (by kernel_rfl) (by kernel_rfl) (by kernel_rfl) (fun _ _ _ h => h) (Or.inl ⟨by rfl, ?_⟩) hS ?_
    rotate_left
    · intro V hV
      have k0 := (hV.cell (p := ⟨w.heap.size, 0, none⟩) hlx).trans cx0
      have k1 := (hV.cell (p := ⟨w.heap.size, 1, none⟩) hlx).trans cx1
      have k2 := (hV.cell (p := ⟨w.heap.size, 2, none⟩) hlx).trans cx2
      have k3 := (hV.cell (p := ⟨w.heap.size, 3, none⟩) hlx).trans cx3
      go_simp
      (try with_reducible rfl)
    simp only [Act.put, List.setIfInBounds_toArray]
    refine wpAnyH_take (i := 1) (v := ?_) rfl (by kernel_rfl) (by kernel_rfl) (by kernel_rfl) (fun _ _ _ h => h) (Or.inl ⟨by rfl, ?_⟩) hS ?_
    rotate_left
    · intro V hV
      go_simp
      (try with_reducible rfl)
    simp only [Act.put]
    refine wpAnyH_take (i := 2) (v := ?_) rfl (by kernel_rfl) (by kernel_rfl) (by kernel_rfl) (fun _ _ _ h => h) (Or.inl ⟨by rfl, ?_⟩) hS ?_
    rotate_left
    · intro V hV
      go_simp
      (try with_reducible rfl)
    simp only [Act.put]
    refine wpAnyH_ready (rs := [3]) (by kernel_rfl) (by simp) (AllReadyH.cons rfl (fun K hK => ?_) AllReadyH.nil)
    go_simp
    refine (HOF.out _).mono ?_
    rintro e U1 ⟨rfl, hbc⟩
    refine hK.out _ _ (hS.trans (hbc.mono hS.size)) (fun hS => ?_)
    clear hK K hbc
    refine wpAnyH_ready (rs := [4]) (by kernel_rfl) (by simp) (AllReadyH.cons rfl (fun K hK => ?_) AllReadyH.nil)
    go_simp
    refine (HCM.out _).mono ?_
    rintro e U2 ⟨rfl, hbc⟩
    refine hK.out _ _ (hS.trans (hbc.mono hS.size)) (fun hS => ?_)
    clear hK K hbc
    refine wpAnyH_take (i := 5) (v := ?_) rfl (by kernel_rfl) (by kernel_rfl) (by kernel_rfl) (fun _ _ _ h => h) (Or.inl ⟨by rfl, ?_⟩) hS ?_
    rotate_left
    · intro V hV
      go_simp
      (try with_reducible rfl)
    simp only [Act.put]
    refine wpAnyH_done (by kernel_rfl) ?_ _
    go_wp2
    go_ret2
    exact ⟨rfl, HB.out.trans (hS.mono HB.out.size)⟩
  · have hof := fun W => of_any en (by omega) W
    have hcm := fun W => cmp_any N en W
    rw [small_mod (by omega : en < 18446744073709551616)] at hcm
    rw [← h, cmpI_eq] at hcm
    have hwe : IntKind.u64.wrap (en : Int) = en := by rw [IntKind.wrap_u64]; omega
    obtain ⟨x0, x1, x2, x3, hX⟩ := wv_form N
    obtain ⟨e0, e1, e2, e3, hE⟩ := wv_form en
    simp only [hX, hE] at hof hcm ⊢
    have HOF := hideP hof
    have HCM := hideP hcm
    clear hof hcm hX hE he h
    go_enter Try.func104, Try.ntmps104
    go_wp2_with fail
    refine at_world (fun W0 hW0 => ?_)
    have cx0 : W0.cell? ⟨w.heap.size, 0, none⟩ = some (.int .u64 x0) := by rw [hW0]; simp
    have cx1 : W0.cell? ⟨w.heap.size, 1, none⟩ = some (.int .u64 x1) := by rw [hW0]; simp
    have cx2 : W0.cell? ⟨w.heap.size, 2, none⟩ = some (.int .u64 x2) := by rw [hW0]; simp
    have cx3 : W0.cell? ⟨w.heap.size, 3, none⟩ = some (.int .u64 x3) := by rw [hW0]; simp
    have hlx : w.heap.size < W0.heap.size := by rw [hW0]; simp
    have HB : Hid (Below w.heap.size w W0) := by
      show Below _ _ _
      rw [hW0]
      repeat first | exact Below.refl _ _ | apply Below.drew | (refine Below.alloc ?_ (by simp <;> omega) _) | (refine Below.setCell ?_ (by simp <;> omega) _)
    clear hW0
    refine wp_region_heldS (S := fun V => Below W0.heap.size W0 V) (by kernel_rfl) (Below.refl _ _).drew (fun hS => ?_)
    refine wpAnyH_take (i := 0) (v := ?_) rfl (by kernel_rfl) (by kernel_rfl) (by kernel_rfl) (fun _ _ _ h => h) (Or.inl ⟨by rfl, ?_⟩) hS ?_
    rotate_left
    · intro V hV
      have k0 := (hV.cell (p := ⟨w.heap.size, 0, none⟩) hlx).trans cx0
      have k1 := (hV.cell (p := ⟨w.heap.size, 1, none⟩) hlx).trans cx1
      have k2 := (hV.cell (p := ⟨w.heap.size, 2, none⟩) hlx).trans cx2
      have k3 := (hV.cell (p := ⟨w.heap.size, 3, none⟩) hlx).trans cx3
      go_simp
      (try with_reducible rfl)
    simp only [Act.put, List.setIfInBounds_toArray]
    refine wpAnyH_take (i := 1) (v := ?_) rfl (by kernel_rfl) (by kernel_rfl) (by kernel_rfl) (fun _ _ _ h => h) (Or.inl ⟨by rfl, ?_⟩) hS ?_
    rotate_left
    · intro V hV
      go_simp
      (try with_reducible rfl)
    simp only [Act.put]
    refine wpAnyH_take (i := 2) (v := ?_) rfl (by kernel_rfl) (by kernel_rfl) (by kernel_rfl) (fun _ _ _ h => h) (Or.inl ⟨by rfl, ?_⟩) hS ?_
    rotate_left
    · intro V hV
      go_simp
      (try with_reducible rfl)
    simp only [Act.put]
    refine wpAnyH_ready (rs := [3]) (by kernel_rfl) (by simp) (AllReadyH.cons rfl (fun K hK => ?_) AllReadyH.nil)
    go_simp
    refine (HOF.out _).mono ?_
    rintro e U1 ⟨rfl, hbc⟩
    refine hK.out _ _ (hS.trans (hbc.mono hS.size)) (fun hS => ?_)
    clear hK K hbc
    refine wpAnyH_ready (rs := [4]) (by kernel_rfl) (by simp) (AllReadyH.cons rfl (fun K hK => ?_) AllReadyH.nil)
    go_simp
    refine (HCM.out _).mono ?_
    rintro e U2 ⟨rfl, hbc⟩
    refine hK.out _ _ (hS.trans (hbc.mono hS.size)) (fun hS => ?_)
    clear hK K hbc
    refine wpAnyH_take (i := 5) (v := ?_) rfl (by kernel_rfl) (by kernel_rfl) (by kernel_rfl) (fun _ _ _ h => h) (Or.inl ⟨by rfl, ?_⟩) hS ?_
    rotate_left
    · intro V hV
      go_simp
      (try with_reducible rfl)
    simp only [Act.put]
    refine wpAnyH_done (by kernel_rfl) ?_ _
    go_wp2
    go_ret2
    exact ⟨rfl, HB.out.trans (hS.mono HB.out.size)⟩

end Go.Proofs.Ytpnijncoldihfaa
