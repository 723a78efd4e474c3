/-
  The least bytes of a word, the document's.
-/
import Derived.Test.YtpnijncoldihfaaBackC22
import Derived.Test.YtpnijncoldihfaaBackC18
namespace Go.Proofs.Ytpnijncoldihfaa
open Go.RowKit Go.Shelf

theorem get4 (g : Nat → Nat) {j : Nat} (h : j < 4) : (#[.int .u64 (g 0), .int .u64 (g 1), .int .u64 (g 2), .int .u64 (g 3)] : Array Value)[j]? = some (.int .u64 (g j)) := by
  match j, h with
  | 0, _ => rfl
  | 1, _ => rfl
  | 2, _ => rfl
  | 3, _ => rfl

theorem top_zero_m {N m : Nat} (hN : N < 18446744073709551616 ^ m) : ∀ (d n : Nat), n + d = m → (∀ j, n ≤ j → j < m → limb N j = 0) → N < 18446744073709551616 ^ n := by
  intro d
  induction d with
  | zero => intro n h _; rwa [show n = m by omega]
  | succ d ih =>
    intro n h hz
    have h1 := ih (n + 1) (by omega) (fun j h1 h2 => hz j (by omega) h2)
    have h2 := hz n (Nat.le_refl _) (by omega)
    unfold limb at h2
    rw [Nat.mod_eq_of_lt (by rw [Nat.div_lt_iff_lt_mul (Nat.pow_pos (by decide)), Nat.mul_comm, ← Nat.pow_succ]; exact h1)] at h2
    exact (Nat.div_eq_zero_iff_lt (Nat.pow_pos (by decide))).1 h2

/-- How many bits a number has: the top limb's, and 64 for each limb below it. -/
theorem bits_lt {Z j : Nat} (ht : Z < 18446744073709551616 ^ (j + 1)) : Z < 2 ^ (64 * j + Lib.bitLen (limb Z j)) := by
  have hl := limb_lt Z j
  have hb := bitLen_upper _ (limb Z j) (by simpa using hl) (Nat.le_refl _)
  have hd : Z / 18446744073709551616 ^ j = limb Z j := by
    unfold limb
    rw [Nat.mod_eq_of_lt]
    rw [Nat.div_lt_iff_lt_mul (Nat.pow_pos (by decide)), Nat.mul_comm, ← Nat.pow_succ]
    exact ht
  have h2 : Z < (limb Z j + 1) * 18446744073709551616 ^ j := by
    rw [← hd]
    have := Nat.lt_mul_div_succ Z (Nat.pow_pos (n := j) (show 0 < 18446744073709551616 by decide))
    rw [Nat.mul_comm]
    exact this
  refine Nat.lt_of_lt_of_le h2 ?_
  rw [Nat.pow_add, Nat.mul_comm, show (18446744073709551616 : Nat) = 2 ^ 64 by decide, ← Nat.pow_mul]
  exact Nat.mul_le_mul_left _ hb

/-- How many bits a number has, from below. -/
theorem bits_ge {Z j : Nat} (hnz : limb Z j ≠ 0) : 2 ^ (64 * j + Lib.bitLen (limb Z j) - 1) ≤ Z := by
  have hl := limb_lt Z j
  obtain ⟨h1, h2⟩ := bitLen_pos (x := limb Z j) (by omega) hl
  have hb := bitLen_lower (x := limb Z j) (k := Lib.bitLen (limb Z j) - 1) (by omega) (by omega)
  have hd : limb Z j ≤ Z / 18446744073709551616 ^ j := Nat.mod_le _ _
  have h3 : limb Z j * 18446744073709551616 ^ j ≤ Z := Nat.le_trans (Nat.mul_le_mul_right _ hd) (Nat.div_mul_le_self _ _)
  refine Nat.le_trans ?_ h3
  rw [show 64 * j + Lib.bitLen (limb Z j) - 1 = (Lib.bitLen (limb Z j) - 1) + 64 * j by omega, Nat.pow_add, show (18446744073709551616 : Nat) = 2 ^ 64 by decide, ← Nat.pow_mul]
  exact Nat.mul_le_mul_right _ hb

set_option maxHeartbeats 1000000 in
set_option maxRecDepth 100000 in
theorem bits_any (Y : Nat) (w : World) : Calls Try.prog 66 #[wv Y] w fun e w' => (∃ n : Nat, e = .returned (.int .i64 n) ∧ n ≤ 256 ∧ Y % M256 < 2 ^ n ∧ (0 < n → 2 ^ (n - 1) ≤ Y % M256)) ∧ Below w.heap.size w w' := by
  rw [← wv_mod Y]
  obtain ⟨Z, hZ⟩ : ∃ Z, Z = Y % M256 := ⟨_, rfl⟩
  have hZ4 : Z < 18446744073709551616 ^ 4 := by rw [hZ]; exact Nat.lt_of_lt_of_le (Nat.mod_lt _ M256_pos) (by decide)
  rw [← hZ, wv_limb]
  clear hZ
  have hu := fun W (h : ∀ j, j < 4 → W.cell? ⟨w.heap.size, j, none⟩ = some (.int .u64 (limb Z j))) => used_any W (w.heap.size) 4 4 (limb Z) (by omega) h
  have HU := hideP hu
  have HZ := hideP hZ4
  clear hu hZ4
  go_enter Try.func66, Try.ntmps66
  go_wp2_with fail
  refine (HU.out _ (fun j hj => ?_)).mono ?_
  · match j, hj with
    | 0, _ => exact blk_cell (heap_new _ _) rfl
    | 1, _ => exact blk_cell (heap_new _ _) rfl
    | 2, _ => exact blk_cell (heap_new _ _) rfl
    | 3, _ => exact blk_cell (heap_new _ _) rfl
  rintro e W1 ⟨⟨k, rfl, hk, hz, hnz⟩, rfl⟩
  by_cases h0 : k = 0
  · subst h0
    have hZ0 : Z < 18446744073709551616 ^ 0 := top_zero_m HZ.out 4 0 (by omega) hz
    have HZ0 := hideP hZ0
    clear hz hnz hk hZ0
    go_wp2_with fail
    go_ret
    refine ⟨⟨0, rfl, by omega, by simpa using HZ0.out, fun h => by omega⟩, ?_⟩
    repeat first | exact Below.refl _ _ | apply Below.drew | (refine Below.alloc ?_ (by simp <;> omega) _) | (refine Below.setCell ?_ (by simp <;> omega) _)
  · obtain ⟨j, rfl⟩ : ∃ j, k = j + 1 := ⟨k - 1, by omega⟩
    have ht : Z < 18446744073709551616 ^ (j + 1) := top_zero_m HZ.out (4 - (j + 1)) (j + 1) (by omega) hz
    have hn := hnz (by omega)
    simp only [Nat.add_sub_cancel] at hn
    have hl := limb_lt Z j
    obtain ⟨p1, p2⟩ := bitLen_pos (x := limb Z j) (by omega) hl
    have HR : Hid (64 * j + Lib.bitLen (limb Z j) ≤ 256 ∧ Z < 2 ^ (64 * j + Lib.bitLen (limb Z j)) ∧ 2 ^ (64 * j + Lib.bitLen (limb Z j) - 1) ≤ Z) := ⟨by omega, bits_lt ht, bits_ge hn⟩
    have hlen := fun W => len64_any (limb Z j) W hl
    have HLEN := hideP hlen
    have cj' : (w.alloc (.cells #[.int .u64 (limb Z 0), .int .u64 (limb Z 1), .int .u64 (limb Z 2), .int .u64 (limb Z 3)] 24)).cell? ⟨w.heap.size, j, none⟩ = some (.int .u64 (limb Z j)) := blk_cell (heap_new _ _) (get4 _ (by omega))
    generalize Lib.bitLen (limb Z j) = bl at HR HLEN p1 p2
    have e0 : IntKind.i64.wrap ((j : Int) + 1 - 1) = (j : Int) := by rw [IntKind.wrap_i64]; omega
    have e0' : IntKind.i64.wrap (j : Int) = (j : Int) := by rw [IntKind.wrap_i64]; omega
    have e1 : IntKind.i64.wrap (64 * (j : Int)) = 64 * (j : Int) := by rw [IntKind.wrap_i64]; omega
    have e2 : IntKind.i64.wrap (64 * (j : Int) + bl) = 64 * (j : Int) + bl := by rw [IntKind.wrap_i64]; omega
    have hj4 : (j : Int) < 4 := by omega
    have hj0 : ¬ ((j : Int) + 1 = 0) := by omega
    clear hz hnz hk ht hn hl hlen h0
    go_wp2_with (go_at_call 112; refine (HLEN.out _).mono ?_; rintro e w' ⟨rfl, rfl⟩)
    go_ret
    refine ⟨⟨64 * j + bl, by simp, HR.out.1, HR.out.2.1, fun _ => HR.out.2.2⟩, ?_⟩
    repeat first | exact Below.refl _ _ | apply Below.drew | (refine Below.alloc ?_ (by simp <;> omega) _) | (refine Below.setCell ?_ (by simp <;> omega) _)

end Go.Proofs.Ytpnijncoldihfaa

namespace Go.Proofs.Ytpnijncoldihfaa
open Go.RowKit Go.Shelf

set_option maxHeartbeats 4000000 in
set_option maxRecDepth 100000 in
theorem least_any (X : Nat) (w : World) : Calls Try.prog 70 #[wv X] w fun e w' => (∃ v, e = .returned v ∧ LRow w' X v) ∧ Below w.heap.size w w' := by
    have c1 := fun W => bits_any X W
    have c2 := fun W => bytes_any X W
    obtain ⟨x0, x1, x2, x3, hx⟩ := wv_form X
    simp only [hx] at c1 c2 ⊢
    unfold b32 at c2
    have C1 := hideP c1
    have C2 := hideP c2
    clear c1 c2 hx
    go_enter Try.func70, Try.ntmps70
    go_wp2_with fail
    refine at_world_q (fun W0 hW0 => ?_)
    have HBx : W0.heap[w.heap.size]? = some (.cells #[.int .u64 x0, .int .u64 x1, .int .u64 x2, .int .u64 x3] 24 (0, 0)) := by
      rw [hW0]; simp only [World.alloc, Array.getElem?_push]; simp
    have HBW : Hid (Below w.heap.size w W0) := by
      show Below _ _ _
      rw [hW0]
      repeat first | exact Below.refl _ _ | (refine Below.alloc ?_ (by simp <;> omega) _)
    clear hW0
    refine (C2.out _).mono ?_
    rintro e W2 ⟨rfl, hb⟩
    replace HBx := (hb.block _ (lt_of_block HBx)).trans HBx
    replace HBW := hideP (HBW.out.trans (hb.mono HBW.out.size))
    have HBW0 := hideP HBW.out.size
    clear hb C2
    have HN := hideP (heap_new W2 (.cells (c32 (fun _ => 0)) 52 (0, 0)))
    rw [← zero32] at HN
    go_wp2_with (refine wpList_store_mid rfl 52 _ _ rfl W2.heap.size 0 (c32 (fun j => byt X (31 - j))) rfl rfl (there32 (g := fun _ => 0) HN.out) size52 (oneCell32 _) ?_; refine Hid.out ?_)
    refine hideP ?_
    have h1 := But.sets (c32 (fun j => byt X (31 - j))).toList 0 (But.refl W2.heap.size (W2.alloc (.cells #[.int .u8 0, .int .u8 0, .int .u8 0, .int .u8 0, .int .u8 0, .int .u8 0, .int .u8 0, .int .u8 0, .int .u8 0, .int .u8 0, .int .u8 0, .int .u8 0, .int .u8 0, .int .u8 0, .int .u8 0, .int .u8 0, .int .u8 0, .int .u8 0, .int .u8 0, .int .u8 0, .int .u8 0, .int .u8 0, .int .u8 0, .int .u8 0, .int .u8 0, .int .u8 0, .int .u8 0, .int .u8 0, .int .u8 0, .int .u8 0, .int .u8 0, .int .u8 0] 52 (0, 0))))
    have h2 := blk_sets (c32 (fun j => byt X (31 - j))).toList 0 (show (W2.alloc (.cells #[.int .u8 0, .int .u8 0, .int .u8 0, .int .u8 0, .int .u8 0, .int .u8 0, .int .u8 0, .int .u8 0, .int .u8 0, .int .u8 0, .int .u8 0, .int .u8 0, .int .u8 0, .int .u8 0, .int .u8 0, .int .u8 0, .int .u8 0, .int .u8 0, .int .u8 0, .int .u8 0, .int .u8 0, .int .u8 0, .int .u8 0, .int .u8 0, .int .u8 0, .int .u8 0, .int .u8 0, .int .u8 0, .int .u8 0, .int .u8 0, .int .u8 0, .int .u8 0] 52 (0, 0))).heap[W2.heap.size]? = some (.cells (c32 (fun _ => 0)) 52 (0, 0)) from HN.out)
    rw [putAll32] at h2
    have hlr := lt_of_block HBx
    have hlt4 : W2.heap.size < (((W2.alloc (.cells #[.int .u8 0, .int .u8 0, .int .u8 0, .int .u8 0, .int .u8 0, .int .u8 0, .int .u8 0, .int .u8 0, .int .u8 0, .int .u8 0, .int .u8 0, .int .u8 0, .int .u8 0, .int .u8 0, .int .u8 0, .int .u8 0, .int .u8 0, .int .u8 0, .int .u8 0, .int .u8 0, .int .u8 0, .int .u8 0, .int .u8 0, .int .u8 0, .int .u8 0, .int .u8 0, .int .u8 0, .int .u8 0, .int .u8 0, .int .u8 0, .int .u8 0, .int .u8 0] 52 (0, 0))).setCells W2.heap.size 0 (c32 (fun j => byt X (31 - j))).toList)).heap.size := lt_of_block h2
    replace HBx := (h1.same _ (by omega)).trans ((heap_old W2 (.cells #[.int .u8 0, .int .u8 0, .int .u8 0, .int .u8 0, .int .u8 0, .int .u8 0, .int .u8 0, .int .u8 0, .int .u8 0, .int .u8 0, .int .u8 0, .int .u8 0, .int .u8 0, .int .u8 0, .int .u8 0, .int .u8 0, .int .u8 0, .int .u8 0, .int .u8 0, .int .u8 0, .int .u8 0, .int .u8 0, .int .u8 0, .int .u8 0, .int .u8 0, .int .u8 0, .int .u8 0, .int .u8 0, .int .u8 0, .int .u8 0, .int .u8 0, .int .u8 0] 52 (0, 0)) hlr).trans HBx)
    replace HBW := hideP ((HBW.out.alloc HBW.out.size (.cells #[.int .u8 0, .int .u8 0, .int .u8 0, .int .u8 0, .int .u8 0, .int .u8 0, .int .u8 0, .int .u8 0, .int .u8 0, .int .u8 0, .int .u8 0, .int .u8 0, .int .u8 0, .int .u8 0, .int .u8 0, .int .u8 0, .int .u8 0, .int .u8 0, .int .u8 0, .int .u8 0, .int .u8 0, .int .u8 0, .int .u8 0, .int .u8 0, .int .u8 0, .int .u8 0, .int .u8 0, .int .u8 0, .int .u8 0, .int .u8 0, .int .u8 0, .int .u8 0] 52 (0, 0))).trans (h1.below.mono HBW.out.size))
    have HB := hideP h2
    have HS2 := hideP (HBW0.out)
    clear h1 h2 hlr HN HBW0
    (try simp only [put_none])
    generalize (W2.alloc (.cells #[.int .u8 0, .int .u8 0, .int .u8 0, .int .u8 0, .int .u8 0, .int .u8 0, .int .u8 0, .int .u8 0, .int .u8 0, .int .u8 0, .int .u8 0, .int .u8 0, .int .u8 0, .int .u8 0, .int .u8 0, .int .u8 0, .int .u8 0, .int .u8 0, .int .u8 0, .int .u8 0, .int .u8 0, .int .u8 0, .int .u8 0, .int .u8 0, .int .u8 0, .int .u8 0, .int .u8 0, .int .u8 0, .int .u8 0, .int .u8 0, .int .u8 0, .int .u8 0] 52 (0, 0))).setCells W2.heap.size 0 (c32 (fun j => byt X (31 - j))).toList = W4 at HBx HBW HB hlt4 ⊢
    generalize W2.heap.size = B at HB HS2 hlt4 ⊢
    obtain ⟨cx0, cx1, cx2, cx3⟩ := cells4 HBx
    have hlx := lt_of_block HBx
    go_wp2_with fail
    refine (C1.out _).mono ?_
    rintro e W5 ⟨⟨n, rfl, h256, hlo, hhi⟩, hb⟩
    have hLB := LB.ofBits h256 hlo hhi
    replace HB := hideP ((hb.block _ hlt4).trans HB.out)
    replace HBW := hideP (HBW.out.trans (hb.mono HBW.out.size))
    have hlt5 : B < W5.heap.size := lt_of_block HB.out
    clear cx0 cx1 cx2 cx3 hlx HBx C1 hb hlo hhi hlt4
    have e1 : IntKind.i64.wrap ((n : Int) + 7) = (n : Int) + 7 := by rw [IntKind.wrap_i64]; omega
    have e2 : ((n : Int) + 7).tdiv 8 = (((n + 7) / 8 : Nat) : Int) := by rw [Int.tdiv_eq_ediv_of_nonneg (by omega)]; omega
    have hm := hLB.le
    have HLB := hideP hLB
    clear hLB h256
    generalize (n + 7) / 8 = m at *
    have e3 : IntKind.i64.wrap ((m : Nat) : Int) = ((m : Nat) : Int) := by rw [IntKind.wrap_i64]; omega
    have e4 : IntKind.i64.wrap (32 - (m : Int)) = ((32 - m : Nat) : Int) := by rw [IntKind.wrap_i64]; omega
    obtain ⟨i0, hi, hz0, hz1, hz2⟩ := info_parts Try.bytes5
    have HM := hideP hm
    clear hm
    go_wp2_with (at_make; refine wpList_make_full _ rfl _ _ 51 rfl W5.heap.size 5 i0 (.int .u8 0) 1 Try.underlying51 hi hz0 hz1 _ _ _ _ m rfl rfl rfl rfl ?b2 ?b3 (Nat.le_refl _) ?_)
    case b2 => have := HM.out; rw [hz2]; omega
    case b3 => have := HM.out; unfold maxLen; omega
    intro W6 hown hgrow
    have hm := HM.out
    obtain ⟨cur, hg, _, _, hmx, hcur, _⟩ := own_row hown
    have hb6 : Below W5.heap.size W5 W6 := (Below.refl _ _).grown hgrow (Nat.le_refl _) (fun k h => by cases h)
    replace HB := hideP ((hb6.block _ hlt5).trans HB.out)
    replace HBW := hideP (HBW.out.trans (hb6.mono HBW.out.size))
    obtain ⟨sp, hsp, hsl⟩ := slice32 B (32 - m) (by omega)
    rw [show 32 - (32 - m) = m by omega] at hsl
    have hlen : ((List.range m).map (fun j => Value.int .u8 (lowB X m j))).length = m := by simp
    obtain ⟨W7, hrun, hg7, hgrow7⟩ := copy_run (P := Try.prog) W6 51 3 5 Try.underlying51 Try.size5 (some ⟨W5.heap.size, 0, none⟩) (some ⟨B, sp, none⟩) m m m m W5.heap.size 0 cur 5 hg ((List.range m).map (fun j => Value.int .u8 (lowB X m j))) (by rw [hlen]; simp) (fun h => ⟨rfl, ⟨B, sp, none⟩, rfl, fun j v hv => by
      rw [hlen] at h
      rw [hsp (by omega)]
      simp only [List.getElem?_map, Option.map_eq_some_iff] at hv
      obtain ⟨x, hx, rfl⟩ := hv
      obtain ⟨hj, rfl⟩ := List.getElem?_eq_some_iff.1 hx
      simp only [List.length_range] at hj
      rw [Addr.add_mid, List.getElem_range, blk_cell HB.out (get32 _ (show 32 - m + j < 32 by omega))]
      unfold lowB
      rw [show 31 - (32 - m + j) = m - 1 - j by omega]⟩) (by rw [hlen]; omega) (by
      intro v hv
      simp only [List.mem_map] at hv
      obtain ⟨x, _, rfl⟩ := hv
      rfl)
    rw [hlen] at hrun
    have HL7 : Hid (Below w.heap.size w W7) := HBW.out.grown hgrow7 HBW.out.size (fun k h => by cases h; exact Nat.le_trans HS2.out (by omega))
    have HR : Hid (LRow W7 X (.slice (some ⟨W5.heap.size, 0, none⟩) m m)) := by
      refine ⟨⟨m, m, W5.heap.size, 0, rfl, HLB.out, lt_of_block hg7, fun j hj => ?_⟩⟩
      rw [Nat.zero_add]
      refine blk_cell hg7 ?_
      rw [List.getElem?_toArray]
      unfold splice
      rw [List.take_zero, List.nil_append, List.getElem?_append_left (by rw [hlen]; exact hj)]
      simp [hj]
    clear hg7 hgrow7 hg hown hgrow hb6 hcur hmx hlen hsp HM hm HLB
    go_wp2_with fail
    go_ret
    exact ⟨⟨_, rfl, HR.out⟩, HL7.out⟩

end Go.Proofs.Ytpnijncoldihfaa

namespace Go.Proofs.Ytpnijncoldihfaa
open Go.RowKit Go.Shelf

theorem byt_split (X k : Nat) : X % 2 ^ (8 * (k + 1)) = X % 2 ^ (8 * k) + 2 ^ (8 * k) * byt X k := by
  unfold byt
  rw [show 8 * (k + 1) = 8 * k + 8 by omega, Nat.pow_add, show (2 : Nat) ^ 8 = 256 by decide, Nat.mod_mul]

theorem M256_pow : M256 = 2 ^ (8 * 32) := by decide

end Go.Proofs.Ytpnijncoldihfaa
