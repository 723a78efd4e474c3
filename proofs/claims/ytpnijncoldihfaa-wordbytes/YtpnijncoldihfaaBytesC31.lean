/-
  How many bits a word has; powers of small numbers.
-/
import Derived.Test.YtpnijncoldihfaaBytesC30
namespace Go.Proofs.Ytpnijncoldihfaa
open Go.RowKit Go.Shelf

theorem get4 (g : Nat → Nat) {j : Nat} (h : j < 4) : (#[.int .u64 (g 0), .int .u64 (g 1), .int .u64 (g 2), .int .u64 (g 3)] : Array Value)[j]? = some (.int .u64 (g j)) := by
  match j, h with
  | 0, _ => rfl
  | 1, _ => rfl
  | 2, _ => rfl
  | 3, _ => rfl

theorem top_zero_m {N m : Nat} (hN : N < 18446744073709551616 ^ m) : ∀ (d n : Nat), n + d = m → (∀ j, n ≤ j → j < m → limb N j = 0) → N < 18446744073709551616 ^ n := by
  intro d
  induction d with
  | zero => intro n h _; rwa [show n = m by omega]
  | succ d ih =>
    intro n h hz
    have h1 := ih (n + 1) (by omega) (fun j h1 h2 => hz j (by omega) h2)
    have h2 := hz n (Nat.le_refl _) (by omega)
    unfold limb at h2
    rw [Nat.mod_eq_of_lt (by rw [Nat.div_lt_iff_lt_mul (Nat.pow_pos (by decide)), Nat.mul_comm, ← Nat.pow_succ]; exact h1)] at h2
    exact (Nat.div_eq_zero_iff_lt (Nat.pow_pos (by decide))).1 h2

/-- How many bits a number has: the top limb's, and 64 for each limb below it. -/
theorem bits_lt {Z j : Nat} (ht : Z < 18446744073709551616 ^ (j + 1)) : Z < 2 ^ (64 * j + Lib.bitLen (limb Z j)) := by
  have hl := limb_lt Z j
  have hb := bitLen_upper _ (limb Z j) (by simpa using hl) (Nat.le_refl _)
  have hd : Z / 18446744073709551616 ^ j = limb Z j := by
    unfold limb
    rw [Nat.mod_eq_of_lt]
    rw [Nat.div_lt_iff_lt_mul (Nat.pow_pos (by decide)), Nat.mul_comm, ← Nat.pow_succ]
    exact ht
  have h2 : Z < (limb Z j + 1) * 18446744073709551616 ^ j := by
    rw [← hd]
    have := Nat.lt_mul_div_succ Z (Nat.pow_pos (n := j) (show 0 < 18446744073709551616 by decide))
    rw [Nat.mul_comm]
    exact this
  refine Nat.lt_of_lt_of_le h2 ?_
  rw [Nat.pow_add, Nat.mul_comm, show (18446744073709551616 : Nat) = 2 ^ 64 by decide, ← Nat.pow_mul]
  exact Nat.mul_le_mul_left _ hb

/-- How many bits a number has, from below. -/
theorem bits_ge {Z j : Nat} (hnz : limb Z j ≠ 0) : 2 ^ (64 * j + Lib.bitLen (limb Z j) - 1) ≤ Z := by
  have hl := limb_lt Z j
  obtain ⟨h1, h2⟩ := bitLen_pos (x := limb Z j) (by omega) hl
  have hb := bitLen_lower (x := limb Z j) (k := Lib.bitLen (limb Z j) - 1) (by omega) (by omega)
  have hd : limb Z j ≤ Z / 18446744073709551616 ^ j := Nat.mod_le _ _
  have h3 : limb Z j * 18446744073709551616 ^ j ≤ Z := Nat.le_trans (Nat.mul_le_mul_right _ hd) (Nat.div_mul_le_self _ _)
  refine Nat.le_trans ?_ h3
  rw [show 64 * j + Lib.bitLen (limb Z j) - 1 = (Lib.bitLen (limb Z j) - 1) + 64 * j by omega, Nat.pow_add, show (18446744073709551616 : Nat) = 2 ^ 64 by decide, ← Nat.pow_mul]
  exact Nat.mul_le_mul_right _ hb

set_option maxHeartbeats 1000000 in
set_option maxRecDepth 100000 in
theorem bits_any (Y : Nat) (w : World) : Calls Try.prog 66 #[wv Y] w fun e w' => (∃ n : Nat, e = .returned (.int .i64 n) ∧ n ≤ 256 ∧ Y % M256 < 2 ^ n ∧ (0 < n → 2 ^ (n - 1) ≤ Y % M256)) ∧ Below w.heap.size w w' := by
  rw [← wv_mod Y]
  obtain ⟨Z, hZ⟩ : ∃ Z, Z = Y % M256 := ⟨_, rfl⟩
  have hZ4 : Z < 18446744073709551616 ^ 4 := by rw [hZ]; exact Nat.lt_of_lt_of_le (Nat.mod_lt _ M256_pos) (by decide)
  rw [← hZ, wv_limb]
  clear hZ
  have hu := fun W (h : ∀ j, j < 4 → W.cell? ⟨w.heap.size, j, none⟩ = some (.int .u64 (limb Z j))) => used_any W (w.heap.size) 4 4 (limb Z) (by omega) h
  have HU := hideP hu
  have HZ := hideP hZ4
  clear hu hZ4
  go_enter Try.func66, Try.ntmps66
  go_wp2_with fail
  refine (HU.out _ (fun j hj => ?_)).mono ?_
  · match j, hj with
    | 0, _ => exact blk_cell (heap_new _ _) rfl
    | 1, _ => exact blk_cell (heap_new _ _) rfl
    | 2, _ => exact blk_cell (heap_new _ _) rfl
    | 3, _ => exact blk_cell (heap_new _ _) rfl
  rintro e W1 ⟨⟨k, rfl, hk, hz, hnz⟩, rfl⟩
  by_cases h0 : k = 0
  · subst h0
    have hZ0 : Z < 18446744073709551616 ^ 0 := top_zero_m HZ.out 4 0 (by omega) hz
    have HZ0 := hideP hZ0
    clear hz hnz hk hZ0
    go_wp2_with fail
    go_ret
    refine ⟨⟨0, rfl, by omega, by simpa using HZ0.out, fun h => by omega⟩, ?_⟩
    repeat first | exact Below.refl _ _ | apply Below.drew | (refine Below.alloc ?_ (by simp <;> omega) _) | (refine Below.setCell ?_ (by simp <;> omega) _)
  · obtain ⟨j, rfl⟩ : ∃ j, k = j + 1 := ⟨k - 1, by omega⟩
    have ht : Z < 18446744073709551616 ^ (j + 1) := top_zero_m HZ.out (4 - (j + 1)) (j + 1) (by omega) hz
    have hn := hnz (by omega)
    simp only [Nat.add_sub_cancel] at hn
    have hl := limb_lt Z j
    obtain ⟨p1, p2⟩ := bitLen_pos (x := limb Z j) (by omega) hl
    have HR : Hid (64 * j + Lib.bitLen (limb Z j) ≤ 256 ∧ Z < 2 ^ (64 * j + Lib.bitLen (limb Z j)) ∧ 2 ^ (64 * j + Lib.bitLen (limb Z j) - 1) ≤ Z) := ⟨by omega, bits_lt ht, bits_ge hn⟩
    have hlen := fun W => len64_any (limb Z j) W hl
    have HLEN := hideP hlen
    have cj' : (w.alloc (.cells #[.int .u64 (limb Z 0), .int .u64 (limb Z 1), .int .u64 (limb Z 2), .int .u64 (limb Z 3)] 24)).cell? ⟨w.heap.size, j, none⟩ = some (.int .u64 (limb Z j)) := blk_cell (heap_new _ _) (get4 _ (by omega))
    generalize Lib.bitLen (limb Z j) = bl at HR HLEN p1 p2
    have e0 : IntKind.i64.wrap ((j : Int) + 1 - 1) = (j : Int) := by rw [IntKind.wrap_i64]; omega
    have e0' : IntKind.i64.wrap (j : Int) = (j : Int) := by rw [IntKind.wrap_i64]; omega
    have e1 : IntKind.i64.wrap (64 * (j : Int)) = 64 * (j : Int) := by rw [IntKind.wrap_i64]; omega
    have e2 : IntKind.i64.wrap (64 * (j : Int) + bl) = 64 * (j : Int) + bl := by rw [IntKind.wrap_i64]; omega
    have hj4 : (j : Int) < 4 := by omega
    have hj0 : ¬ ((j : Int) + 1 = 0) := by omega
    clear hz hnz hk ht hn hl hlen h0
    go_wp2_with (go_at_call 112; refine (HLEN.out _).mono ?_; rintro e w' ⟨rfl, rfl⟩)
    go_ret
    refine ⟨⟨64 * j + bl, by simp, HR.out.1, HR.out.2.1, fun _ => HR.out.2.2⟩, ?_⟩
    repeat first | exact Below.refl _ _ | apply Below.drew | (refine Below.alloc ?_ (by simp <;> omega) _) | (refine Below.setCell ?_ (by simp <;> omega) _)

end Go.Proofs.Ytpnijncoldihfaa
