/-
  The document's Inv and Root.
-/
import Derived.Test.YtiekipkmfopdoaaRExp
namespace Go.Proofs.Ytiekipkmfopdoaa
open Go.RowKit Go.Shelf

theorem one_lt_pow {n : Nat} (h : 0 < n) (x : Nat) (hx : x < 18446744073709551616) : x < 18446744073709551616 ^ n := by
  have := Nat.pow_le_pow_right (show 0 < 18446744073709551616 by decide) h
  rw [Nat.pow_one] at this
  omega

set_option maxHeartbeats 2000000 in
set_option maxRecDepth 100000 in
/-- The document's Inv. -/
theorem rinv_any {n M : Nat} (hM : FM n M) (X : Nat) (hX : X < M) (w : World) (fv u : Value) (hF : FF w fv n M) (hu : LW w u n (limb X)) :
    Calls Try.prog 46 #[fv, u] w fun r w' => (∃ v', r = .returned v' ∧ LW w' v' n (limb (X ^ (M - 2) % M))) ∧ Below w.heap.size w w' := by
  have HU := hideP hu
  have HFF := hideP hF
  have HH : Hid (FM n M ∧ X < M) := ⟨hM, hX⟩
  clear hu hM hX
  obtain ⟨mv, fo, tv, rfl, hm, ht, hfo⟩ := hF.ex
  have HMV := hideP hm
  have HTV := hideP ht
  have HFO := hideP hfo
  clear hF hm ht hfo
  go_enter Try.func46, Try.ntmps46
  refine wp_seqH (fun K0 HK0 => ?_)
  go_wp2_with fail
  refine HK0.out _ _ ?_
  refine at_world (fun W0 hW0 => ?_)
  have hB0 : W0.heap[w.heap.size]? = some (.cells #[mv, .int .u64 fo, tv] 38 (0, 0)) := by
    rw [hW0]
    exact heap_new _ _
  have HBW : Hid (Below w.heap.size w W0) := by
    show Below _ _ _
    rw [hW0]
    repeat first | exact Below.refl _ _ | (refine Below.alloc ?_ (by simp <;> omega) _)
  have HB0 := hideP hB0
  clear hW0 hB0
  obtain ⟨gt, ot, ct, hte, -, -, -, -⟩ := HTV.out.ex
  subst hte
  obtain ⟨gm, om, cm, hme, -, -, -, -⟩ := HMV.out.ex
  subst hme
  refine wp_seqH (fun K1 HK1 => ?_)
  refine wp_region_heldS (S := fun V => Below W0.heap.size W0 V) (by kernel_rfl) ((Below.refl _ _).drew) (fun hS => ?_)
  refine wpAnyH_takeL (i := 0) (v := ?_) rfl (by kernel_rfl) (by kernel_rfl) (by kernel_rfl) (fun _ _ _ h => h) (Or.inl ⟨by kernel_rfl, ?_⟩) hS ?_
  rotate_left
  · intro V hV
    go_simp
    (try with_reducible rfl)
  simp only [put_list, List.set_cons_succ, List.set_cons_zero]
  refine wpAnyH_takeL (i := 1) (v := ?_) rfl (by kernel_rfl) (by kernel_rfl) (by kernel_rfl) (fun _ _ _ h => h) (Or.inl ⟨by kernel_rfl, ?_⟩) hS ?_
  rotate_left
  · intro V hV
    have k0 : V.cell? ⟨w.heap.size, 0, none⟩ = some (.slice (some ⟨gm, om, none⟩) n cm) := blk_cell ((hV.block _ (lt_of_block HB0.out)).trans HB0.out) rfl
    have k1 : V.cell? ⟨w.heap.size, 1, none⟩ = some (.int .u64 fo) := blk_cell ((hV.block _ (lt_of_block HB0.out)).trans HB0.out) rfl
    have k2 : V.cell? ⟨w.heap.size, 2, none⟩ = some (.slice (some ⟨gt, ot, none⟩) n ct) := blk_cell ((hV.block _ (lt_of_block HB0.out)).trans HB0.out) rfl
    go_simp
    (try with_reducible rfl)
  simp only [put_list, List.set_cons_succ, List.set_cons_zero]
  refine wpAnyH_takeL (i := 2) (v := ?_) rfl (by kernel_rfl) (by kernel_rfl) (by kernel_rfl) (fun _ _ _ h => h) (Or.inl ⟨by kernel_rfl, ?_⟩) hS ?_
  rotate_left
  · intro V hV
    have k0 : V.cell? ⟨w.heap.size, 0, none⟩ = some (.slice (some ⟨gm, om, none⟩) n cm) := blk_cell ((hV.block _ (lt_of_block HB0.out)).trans HB0.out) rfl
    have k1 : V.cell? ⟨w.heap.size, 1, none⟩ = some (.int .u64 fo) := blk_cell ((hV.block _ (lt_of_block HB0.out)).trans HB0.out) rfl
    have k2 : V.cell? ⟨w.heap.size, 2, none⟩ = some (.slice (some ⟨gt, ot, none⟩) n ct) := blk_cell ((hV.block _ (lt_of_block HB0.out)).trans HB0.out) rfl
    go_simp
    (try with_reducible rfl)
  simp only [put_list, List.set_cons_succ, List.set_cons_zero]
  refine wpAnyH_ready (rs := [3]) (by kernel_rfl) (by simp) (AllReadyH.cons rfl (fun K hK => ?_) AllReadyH.nil)
  go_simp
  refine (rsmall_any HH.out.1 2 (by decide) _ _ (HFF.out.moved (HBW.out.trans (hS.mono HBW.out.size)))).mono ?_
  rintro r y1 ⟨⟨v1, rfl, hL⟩, hb⟩
  refine hK.out _ _ (hS.trans (hb.mono hS.size)) (fun hS2 => ?_)
  clear hS
  have hS := hS2
  clear hS2
  have HL1 := hideP hL
  clear hL
  clear hb
  clear hK K
  refine wpAnyH_ready (rs := [4]) (by kernel_rfl) (by simp) (AllReadyH.cons rfl (fun K hK => ?_) AllReadyH.nil)
  go_simp
  refine (rsub_num HH.out.1.n8 M 2 HH.out.1.lt (one_lt_pow HH.out.1.n0 2 (by decide)) _ _ v1 (HMV.out.moved (HBW.out.trans (hS.mono HBW.out.size))) HL1.out).mono ?_
  rintro r y2 ⟨⟨v2, c2, rfl, hL, -⟩, hb⟩
  refine hK.out _ _ (hS.trans (hb.mono hS.size)) (fun hS2 => ?_)
  clear hS
  have hS := hS2
  clear hS2
  rw [if_neg (by have := HH.out.1.ge; omega)] at hL
  have HL2 := hideP hL
  clear hL
  clear hb
  clear hK K
  refine wpAnyH_takeL (i := 5) (v := ?_) rfl (by kernel_rfl) (by kernel_rfl) (by kernel_rfl) (fun _ _ _ h => h) (Or.inl ⟨by kernel_rfl, ?_⟩) hS ?_
  rotate_left
  · intro V hV
    go_simp
    (try with_reducible rfl)
  simp only [put_list, List.set_cons_succ, List.set_cons_zero]
  refine wpAnyH_takeL (i := 6) (v := ?_) rfl (by kernel_rfl) (by kernel_rfl) (by kernel_rfl) (fun _ _ _ h => h) (Or.inl ⟨by kernel_rfl, ?_⟩) hS ?_
  rotate_left
  · intro V hV
    go_simp
    (try with_reducible rfl)
  simp only [put_list, List.set_cons_succ, List.set_cons_zero]
  refine wpAnyH_takeL (i := 7) (v := ?_) rfl (by kernel_rfl) (by kernel_rfl) (by kernel_rfl) (fun _ _ _ h => h) (Or.inl ⟨by kernel_rfl, ?_⟩) hS ?_
  rotate_left
  · intro V hV
    go_simp
    (try with_reducible rfl)
  simp only [put_list, List.set_cons_succ, List.set_cons_zero]
  refine wpAnyH_ready (rs := [8]) (by kernel_rfl) (by simp) (AllReadyH.cons rfl (fun K hK => ?_) AllReadyH.nil)
  go_simp
  refine hK.out _ _ hS (fun hS => ?_)
  clear hK K
  refine wpAnyH_ready (rs := [9]) (by kernel_rfl) (by simp) (AllReadyH.cons rfl (fun K hK => ?_) AllReadyH.nil)
  go_simp
  refine hK.out _ _ hS (fun hS => ?_)
  clear hK K
  refine wpAnyH_done (by kernel_rfl) ?_ _
  (try simp only [put_none])
  refine HK1.out _ _ ?_
  have f0 : y2.cell? ⟨w.heap.size, 0, none⟩ = some (.slice (some ⟨gm, om, none⟩) n cm) := blk_cell ((hS.block _ (lt_of_block HB0.out)).trans HB0.out) rfl
  have f1 : y2.cell? ⟨w.heap.size, 1, none⟩ = some (.int .u64 fo) := blk_cell ((hS.block _ (lt_of_block HB0.out)).trans HB0.out) rfl
  have f2 : y2.cell? ⟨w.heap.size, 2, none⟩ = some (.slice (some ⟨gt, ot, none⟩) n ct) := blk_cell ((hS.block _ (lt_of_block HB0.out)).trans HB0.out) rfl
  have HB2 := hideP (HBW.out.trans (hS.mono HBW.out.size))
  have C := hideP (rexp_any HH.out.1 X HH.out.2 n HH.out.1.n8 (limb (M - 2)) y2 _ u v2 (HFF.out.moved HB2.out) (HU.out.moved HB2.out) HL2.out.exp)
  rw [val_limbs (Nat.lt_of_le_of_lt (Nat.sub_le _ _) HH.out.1.lt)] at C
  clear hS HBW HL1
  go_wp2_with fail
  refine C.out.mono ?_
  rintro r y3 ⟨⟨v3, rfl, hL⟩, hb⟩
  have HL3 := hideP hL
  have HB3 := hideP (HB2.out.trans (hb.mono HB2.out.size))
  clear hL hb C
  go_wp2
  go_ret
  exact ⟨⟨_, rfl, HL3.out⟩, HB3.out⟩

/-- A quarter's limb. -/
theorem quart_limb (M j : Nat) : limb (M / 4) j = limb M j / 4 + limb M (j + 1) % 4 * 4611686018427387904 := by
  unfold limb
  rw [Nat.pow_succ, ← Nat.div_div_eq_div_mul, Nat.div_div_eq_div_mul, Nat.mul_comm 4, ← Nat.div_div_eq_div_mul]
  generalize M / 18446744073709551616 ^ j = y
  omega

/-- Where the quarter has come to. -/
structure QR (W wr : World) (D n M k : Nat) : Prop where
  cells : wr.heap[D]? = some (.cells (cw n (fun j => if j < k then limb (M / 4) j else 0)) 23 (0, 0))
  but : But D W wr

theorem or_quart (x y : Nat) (hx : x < 18446744073709551616) : bits .or .u64 ((x / 4 : Nat) : Int) ((y * 4611686018427387904 % 18446744073709551616 : Nat) : Int) = ((x / 4 + y % 4 * 4611686018427387904 : Nat) : Int) := by
  have h := bits_or_u64_nat (x / 4) (y * 4611686018427387904 % 18446744073709551616) (by omega) (by omega)
  have e0 : y * 4611686018427387904 % 18446744073709551616 = 2 ^ 62 * (y % 4) := by omega
  have e : x / 4 ||| y * 4611686018427387904 % 18446744073709551616 = x / 4 + y % 4 * 4611686018427387904 := by
    rw [e0, Nat.or_comm, ← Nat.two_pow_add_eq_or_of_lt (show x / 4 < 2 ^ 62 by omega)]
    omega
  rw [h, e]

/-- The document's root: what it answers, and whether. -/
def rootD (M X : Nat) : Nat := if X ^ ((M + 1) / 4) % M * (X ^ ((M + 1) / 4) % M) % M = X then X ^ ((M + 1) / 4) % M else 0
def rootDB (M X : Nat) : Bool := decide (X ^ ((M + 1) / 4) % M * (X ^ ((M + 1) / 4) % M) % M = X)

set_option maxHeartbeats 4000000 in
set_option maxRecDepth 100000 in
/-- The document's Root. -/
theorem rroot_any {n M : Nat} (hn2 : 2 ≤ n) (hM : FM n M) (X : Nat) (hX : X < M) (w : World) (fv u : Value) (hF : FF w fv n M) (hu : LW w u n (limb X)) :
    Calls Try.prog 34 #[fv, u] w fun r w' => (∃ v', r = .returned (.tuple #[v', .bool (rootDB M X)]) ∧ LW w' v' n (limb (rootD M X))) ∧ Below w.heap.size w w' := by
  have HU := hideP hu
  have HFF := hideP hF
  have HH : Hid (FM n M ∧ X < M) := ⟨hM, hX⟩
  clear hu hM hX
  obtain ⟨mv, fo, tv, rfl, hm, ht, hfo⟩ := hF.ex
  have HMV := hideP hm
  have HTV := hideP ht
  have HFO := hideP hfo
  clear hF hm ht hfo
  go_enter Try.func34, Try.ntmps34
  refine wp_seqH (fun K0 HK0 => ?_)
  go_wp2_with fail
  refine HK0.out _ _ ?_
  refine at_world (fun W0 hW0 => ?_)
  have hB0 : W0.heap[w.heap.size]? = some (.cells #[mv, .int .u64 fo, tv] 38 (0, 0)) := by
    rw [hW0]
    exact heap_new _ _
  have HBW : Hid (Below w.heap.size w W0) := by
    show Below _ _ _
    rw [hW0]
    repeat first | exact Below.refl _ _ | (refine Below.alloc ?_ (by simp <;> omega) _)
  have HB0 := hideP hB0
  clear hW0 hB0
  obtain ⟨gt, ot, ct, hte, -, -, -, -⟩ := HTV.out.ex
  subst hte
  obtain ⟨gm, om, cm, hme, -, -, hml, hmc⟩ := HMV.out.ex
  subst hme
  have HMC := hideP hmc
  have f0 : W0.cell? ⟨w.heap.size, 0, none⟩ = some (.slice (some ⟨gm, om, none⟩) n cm) := blk_cell HB0.out rfl
  have hn := HH.out.1.n8
  have hn0 := HH.out.1.n0
  have hmk := make_words W0 n (by omega)
  have ew : IntKind.i64.wrap (n : Int) = (n : Int) := by rw [IntKind.wrap_i64]; omega
  have HN : Hid (n ≤ 8 ∧ 0 < n) := ⟨hn, hn0⟩
  have hW0s := lt_of_block HB0.out
  clear hn hn0 hmc
  refine wp_seqH (fun K1 HK1 => ?_)
  go_wp2_with fail
  refine HK1.out _ _ ?_
  refine at_world (fun W1 hW1 => ?_)
  have hD : W1.heap[W0.heap.size]? = some (.cells (cw n (fun _ => 0)) 23 (0, 0)) := by
    rw [hW1]
    exact heap_new _ _
  have HBd : Hid (Below W0.heap.size W0 W1) := by
    show Below _ _ _
    rw [hW1]
    exact (Below.refl _ _).alloc (Nat.le_refl _) _
  have HI0 : Hid (QR W1 W1 W0.heap.size n M 0) := ⟨by rw [cw_congr (g := fun _ => 0) (fun j _ => by rw [if_neg (by omega)])]; exact hD, But.refl _ _⟩
  have HB1 := hideP ((HBd.out.block _ hW0s).trans HB0.out)
  have HBW1 := hideP (HBW.out.trans (HBd.out.mono HBW.out.size))
  have hDW : w.heap.size ≤ W0.heap.size := HBW.out.size
  clear hW1 hmk hD HBW HBd HB0 f0
  generalize W0.heap.size = D at *
  refine wp_seqH (fun K2 HK2 => ?_)
  go_wp2_with fail
  go_loopw [15] (fun i wr => ∃ k : Nat, k ≤ n ∧ i = .int .i64 k ∧ QR W1 wr D n M k) (fun i _ => n - (intOf i).toNat)
  case atStart => exact ⟨0, Nat.zero_le _, rfl, HI0.out⟩
  case round =>
    obtain ⟨k, hk, rfl, I⟩ := hrel
    have HI := hideP I
    clear I
    obtain ⟨hn, hn0⟩ := HN.out
    by_cases hlt : k < n
    · have f0 : wr.cell? ⟨w.heap.size, 0, none⟩ = some (.slice (some ⟨gm, om, none⟩) n cm) := blk_cell ((HI.out.but.same _ (by omega)).trans HB1.out) rfl
      have hmov : ∀ j, j < n → wr.cell? ⟨gm, om + j, none⟩ = some (.int .u64 (limb M j)) := fun j hj => by
        rw [HI.out.but.cell (show gm ≠ D by omega), HBW1.out.cell (p := ⟨gm, om + j, none⟩) hml]
        exact HMC.out j hj
      have ca := hmov k hlt
      have cd := blk_cell HI.out.cells (cw_get _ hlt)
      have fr : ∀ o, wr.frozen? ⟨D, o, none⟩ = false := fun o => blk_free HI.out.cells
      have hlt' : (k : Int) < n := by omega
      have e4 : IntKind.i64.wrap ((k : Int) + 1) = (k : Int) + 1 := by rw [IntKind.wrap_i64]; omega
      have HKS : Hid (k + 1 ≤ n) := hlt
      have hx := limb_lt M k
      have s1 : (limb M k : Int) / 4 = ((limb M k / 4 : Nat) : Int) := by omega
      by_cases hlast : k + 1 < n
      · have cb := hmov (k + 1) hlast
        have HO := hideP (or_quart (limb M k) (limb M (k + 1)) hx)
        have hq := quart_limb M k
        have s2 : IntKind.u64.wrap ((limb M (k + 1) : Int) * 4611686018427387904) = ((limb M (k + 1) * 4611686018427387904 % 18446744073709551616 : Nat) : Int) := by rw [IntKind.wrap_u64]; omega
        have hls : (k : Int) + 1 < n := by omega
        obtain ⟨k1, hk1⟩ : ∃ k1, k1 = k + 1 := ⟨_, rfl⟩
        have e5 : (k : Int) + 1 = (k1 : Int) := by omega
        have e6 : IntKind.i64.wrap (k1 : Int) = (k1 : Int) := by rw [IntKind.wrap_i64]; omega
        have hset1 := blk_set (o := k) HI.out.cells (.int .u64 ((limb M k / 4 : Nat) : Int))
        have c1 := blk_cell hset1 (by rw [cw_set]; exact cw_get _ hlt)
        have fr1 : ∀ o, (wr.setCell ⟨D, k, none⟩ (.int .u64 ((limb M k / 4 : Nat) : Int))).frozen? ⟨D, o, none⟩ = false := fun o => blk_free hset1
        have hB1 := (But.refl D wr).set k (.int .u64 ((limb M k / 4 : Nat) : Int))
        have f1 : (wr.setCell ⟨D, k, none⟩ (.int .u64 ((limb M k / 4 : Nat) : Int))).cell? ⟨w.heap.size, 0, none⟩ = some (.slice (some ⟨gm, om, none⟩) n cm) := (hB1.cell (by omega)).trans f0
        have cb1 : (wr.setCell ⟨D, k, none⟩ (.int .u64 ((limb M k / 4 : Nat) : Int))).cell? ⟨gm, om + k1, none⟩ = some (.int .u64 (limb M (k + 1))) := by rw [hk1]; exact (hB1.cell (show gm ≠ D by omega)).trans cb
        rw [if_pos rfl] at c1
        have HQ : Hid (QR W1 ((wr.setCell ⟨D, k, none⟩ (.int .u64 ((limb M k / 4 : Nat) : Int))).setCell ⟨D, k, none⟩ (.int .u64 ((limb M k / 4 + limb M (k + 1) % 4 * 4611686018427387904 : Nat) : Int))).drew D n M k1) := by
          rw [hk1]
          refine ⟨?_, ((HI.out.but.set _ _).set _ _).drew⟩
          have := blk_set (o := k) hset1 (.int .u64 ((limb M k / 4 + limb M (k + 1) % 4 * 4611686018427387904 : Nat) : Int))
          rw [cw_set, cw_set, cw_congr (g := fun j => if j < k + 1 then limb (M / 4) j else 0) (fun j hj => by
            by_cases h1 : j = k
            · subst h1
              rw [if_pos rfl, if_pos (by omega), hq]
            · rw [if_neg h1, if_neg h1]
              by_cases h2 : j < k
              · rw [if_pos h2, if_pos (by omega)]
              · rw [if_neg h2, if_neg (by omega)])] at this
          exact this
        have g1 : (k1 : Int) < n := by omega
        have HK1 : Hid (k1 = k + 1) := hk1
        clear hq hx hmov hset1 hB1 hls cb hk hlt hlast hn hn0 HI hk1
        generalize limb M k / 4 + limb M (k + 1) % 4 * 4611686018427387904 = qq at *
        generalize limb M (k + 1) * 4611686018427387904 % 18446744073709551616 = sh at *
        generalize limb M (k + 1) = y at *
        generalize limb M k / 4 = x4 at *
        generalize limb M k = x at *
        go_wp2_with fail
        go_region
        go_wp2_with fail
        rw [HO.out]
        exact ⟨⟨k1, by have := HKS.out; have := HK1.out; omega, rfl, HQ.out⟩, by have := HKS.out; have := HK1.out; simp [intOf]; omega⟩
      · have hls : ¬ (k : Int) + 1 < n := by omega
        have HQ : Hid (QR W1 (wr.setCell ⟨D, k, none⟩ (.int .u64 ((limb M k / 4 : Nat) : Int))) D n M (k + 1)) := by
          refine ⟨?_, HI.out.but.set _ _⟩
          have := blk_set (o := k) HI.out.cells (.int .u64 ((limb M k / 4 : Nat) : Int))
          rw [cw_set, cw_congr (g := fun j => if j < k + 1 then limb (M / 4) j else 0) (fun j hj => by
            by_cases h1 : j = k
            · subst h1
              rw [if_pos rfl, if_pos (by omega), quart_limb, limb_high HH.out.1.lt (show n ≤ j + 1 by omega), Nat.zero_mod, Nat.zero_mul, Nat.add_zero]
            · rw [if_neg h1]
              by_cases h2 : j < k
              · rw [if_pos h2, if_pos (by omega)]
              · rw [if_neg h2, if_neg (by omega)])] at this
          exact this
        clear hx hmov hk hlt hlast hn hn0 HI
        generalize limb M k / 4 = x4 at *
        generalize limb M k = x at *
        go_wp2_with fail
        exact ⟨⟨k + 1, HKS.out, by go_num, HQ.out⟩, by have := HKS.out; simp [intOf]; omega⟩
    · have hkn : k = n := by omega
      have hnl : ¬ (k : Int) < n := by omega
      have HJ : Hid (QR W1 wr D n M n) := hkn ▸ HI.out
      have HE0 : Hid (LW wr (.slice (some ⟨D, 0, none⟩) n n) n (limb (M / 4))) := (row_LW (by omega) HJ.out.cells).congr (fun j hj => by rw [if_pos hj])
      have hb := HBW1.out.trans (HJ.out.but.below.mono hDW)
      have HBr := hideP hb
      have HFb := hideP ((HJ.out.but.same _ (show w.heap.size ≠ D by omega)).trans HB1.out)
      have hc0 := HMC.out 0 hn0
      rw [Nat.add_zero] at hc0
      have ca : wr.cell? ⟨gm, om, none⟩ = some (.int .u64 (limb M 0)) := (hb.cell (p := ⟨gm, om, none⟩) hml).trans hc0
      have f0 : wr.cell? ⟨w.heap.size, 0, none⟩ = some (.slice (some ⟨gm, om, none⟩) n cm) := blk_cell HFb.out rfl
      have f1 : wr.cell? ⟨w.heap.size, 1, none⟩ = some (.int .u64 fo) := blk_cell HFb.out rfl
      have f2 : wr.cell? ⟨w.heap.size, 2, none⟩ = some (.slice (some ⟨gt, ot, none⟩) n ct) := blk_cell HFb.out rfl
      have g0 : (0 : Int) < (n : Int) := by omega
      have hl0 : limb M 0 = M % 18446744073709551616 := by simp [limb]
      have hr4 : ((limb M 0 : Int)).tmod 4 = ((M % 4 : Nat) : Int) := by rw [Int.tmod_eq_emod_of_nonneg (by omega), hl0]; omega
      have hw4 : IntKind.u64.wrap ((M % 4 : Nat) : Int) = ((M % 4 : Nat) : Int) := by rw [IntKind.wrap_u64]; omega
      have hod := HH.out.1.odd
      have hlt4 : M / 4 < 18446744073709551616 ^ n := Nat.lt_of_le_of_lt (Nat.div_le_self _ _) HH.out.1.lt
      generalize limb M 0 = m0 at *
      clear hk hlt hn hn0 hkn HI HJ hb hc0 hl0 HI0
      have h13 : M % 4 = 3 ∨ M % 4 = 1 := by omega
      rcases h13 with h4 | h4
      · have hq : M / 4 + 1 = (M + 1) / 4 := by omega
        have hlt5 : M / 4 + 1 < 18446744073709551616 ^ n := by have := HH.out.1.lt; have := HH.out.1.ge; omega
        rw [h4] at hr4 hw4
        have C1 := hideP (rsmall_any HH.out.1 1 (by decide) wr _ (HFF.out.moved HBr.out))
        have HFwr := HFb
        have HBwr := HBr
        have HQ5 : Hid (M / 4 + 1 = (M + 1) / 4 ∧ M / 4 + 1 < 18446744073709551616 ^ n ∧ M / 4 < 18446744073709551616 ^ n) := ⟨hq, hlt5, hlt4⟩
        clear h4 hq hlt5 hlt4 hod HFb HBr
        replace hr4 : (m0 : Int).tmod 4 = 3 := hr4
        replace hw4 : IntKind.u64.wrap (3 : Int) = 3 := hw4
        replace C1 : Hid (Calls Try.prog 82 #[.agg #[.slice (some ⟨gm, om, none⟩) n cm, .int .u64 (fo : Int), .slice (some ⟨gt, ot, none⟩) n ct], .int .u64 (1 : Int)] wr fun r w' => (∃ v', r = .returned v' ∧ LW w' v' n (limb 1)) ∧ Below wr.heap.size wr w') := C1
        go_wp2_with fail
        refine HK2.out _ _ ?_
        go_wp2_with fail
        refine C1.out.mono ?_
        rintro r x0 ⟨⟨v0, rfl, hL⟩, hb⟩
        have HL0 := hideP hL
        have HFx0 := hideP ((hb.block _ (lt_of_block HFwr.out)).trans HFwr.out)
        have HBx0 := hideP (HBwr.out.trans (hb.mono HBwr.out.size))
        replace HE0 := hideP (HE0.out.moved hb)
        have f0x0 : x0.cell? ⟨w.heap.size, 0, none⟩ = some (.slice (some ⟨gm, om, none⟩) n cm) := blk_cell HFx0.out rfl
        have f1x0 : x0.cell? ⟨w.heap.size, 1, none⟩ = some (.int .u64 fo) := blk_cell HFx0.out rfl
        have f2x0 : x0.cell? ⟨w.heap.size, 2, none⟩ = some (.slice (some ⟨gt, ot, none⟩) n ct) := blk_cell HFx0.out rfl
        clear hL hb C1 f0 f1 f2 ca
        have C2 := hideP (radd_num HH.out.1.n8 (M / 4) 1 HQ5.out.2.2 (one_lt_pow HH.out.1.n0 1 (by decide)) x0 _ v0 HE0.out HL0.out)
        rw [if_pos HQ5.out.2.1, HQ5.out.1] at C2
        go_wp2_with fail
        refine C2.out.mono ?_
        rintro r xE ⟨⟨vE, cE, rfl, hL, -⟩, hb⟩
        have HLE := hideP hL
        have HFxE := hideP ((hb.block _ (lt_of_block HFx0.out)).trans HFx0.out)
        have HBxE := hideP (HBx0.out.trans (hb.mono HBx0.out.size))
        have f0xE : xE.cell? ⟨w.heap.size, 0, none⟩ = some (.slice (some ⟨gm, om, none⟩) n cm) := blk_cell HFxE.out rfl
        have f1xE : xE.cell? ⟨w.heap.size, 1, none⟩ = some (.int .u64 fo) := blk_cell HFxE.out rfl
        have f2xE : xE.cell? ⟨w.heap.size, 2, none⟩ = some (.slice (some ⟨gt, ot, none⟩) n ct) := blk_cell HFxE.out rfl
        clear hL hb C2 f0x0 f1x0 f2x0
        have C := hideP (rexp_any HH.out.1 X HH.out.2 n HH.out.1.n8 (limb ((M + 1) / 4)) xE _ u vE (HFF.out.moved HBxE.out) (HU.out.moved HBxE.out) HLE.out.exp)
        rw [val_limbs (Nat.lt_of_le_of_lt (show (M + 1) / 4 ≤ M by have := HH.out.1.ge; omega) HH.out.1.lt)] at C
        go_wp2_with fail
        refine C.out.mono ?_
        rintro r x1 ⟨⟨vr, rfl, hL⟩, hb⟩
        have HLR := hideP hL
        have HFx1 := hideP ((hb.block _ (lt_of_block HFxE.out)).trans HFxE.out)
        have HBx1 := hideP (HBxE.out.trans (hb.mono HBxE.out.size))
        have f0x1 : x1.cell? ⟨w.heap.size, 0, none⟩ = some (.slice (some ⟨gm, om, none⟩) n cm) := blk_cell HFx1.out rfl
        have f1x1 : x1.cell? ⟨w.heap.size, 1, none⟩ = some (.int .u64 fo) := blk_cell HFx1.out rfl
        have f2x1 : x1.cell? ⟨w.heap.size, 2, none⟩ = some (.slice (some ⟨gt, ot, none⟩) n ct) := blk_cell HFx1.out rfl
        clear hL hb C
        have hR0 : X ^ ((M + 1) / 4) % M < M := Nat.mod_lt _ HH.out.1.pos
        have HRD : Hid (rootDB M X = decide (X ^ ((M + 1) / 4) % M * (X ^ ((M + 1) / 4) % M) % M = X) ∧ rootD M X = if X ^ ((M + 1) / 4) % M * (X ^ ((M + 1) / 4) % M) % M = X then X ^ ((M + 1) / 4) % M else 0) := ⟨rfl, rfl⟩
        generalize X ^ ((M + 1) / 4) % M = R0 at *
        have C := hideP (rmulMod_any HH.out.1 R0 R0 hR0 hR0 x1 _ vr vr (HFF.out.moved HBx1.out) HLR.out HLR.out)
        have HR0 := hideP hR0
        clear hR0
        go_wp2_with fail
        refine C.out.mono ?_
        rintro r x2 ⟨⟨vs, rfl, hL⟩, hb⟩
        have HLS := hideP hL
        have HFx2 := hideP ((hb.block _ (lt_of_block HFx1.out)).trans HFx1.out)
        have HBx2 := hideP (HBx1.out.trans (hb.mono HBx1.out.size))
        replace HLR := hideP (HLR.out.moved hb)
        have f0x2 : x2.cell? ⟨w.heap.size, 0, none⟩ = some (.slice (some ⟨gm, om, none⟩) n cm) := blk_cell HFx2.out rfl
        have f1x2 : x2.cell? ⟨w.heap.size, 1, none⟩ = some (.int .u64 fo) := blk_cell HFx2.out rfl
        have f2x2 : x2.cell? ⟨w.heap.size, 2, none⟩ = some (.slice (some ⟨gt, ot, none⟩) n ct) := blk_cell HFx2.out rfl
        clear hL hb C f0x1 f1x1 f2x1
        have hS0 : R0 * R0 % M < M := Nat.mod_lt _ HH.out.1.pos
        have C := hideP (rlt_any HH.out.1.n8 (R0 * R0 % M) X (Nat.lt_trans hS0 HH.out.1.lt) (Nat.lt_trans HH.out.2 HH.out.1.lt) x2 vs u HLS.out (HU.out.moved HBx2.out))
        have HS0 := hideP hS0
        clear hS0
        by_cases hlt1 : R0 * R0 % M < X
        · rw [decide_eq_true hlt1] at C
          have HE1 := hideP (show ¬ R0 * R0 % M = X by omega)
          clear hlt1
          go_wp2_with fail
          refine C.out.mono ?_
          rintro r x3 ⟨rfl, hb⟩
          have HFx3 := hideP ((hb.block _ (lt_of_block HFx2.out)).trans HFx2.out)
          have HBx3 := hideP (HBx2.out.trans (hb.mono HBx2.out.size))
          have f0x3 : x3.cell? ⟨w.heap.size, 0, none⟩ = some (.slice (some ⟨gm, om, none⟩) n cm) := blk_cell HFx3.out rfl
          have f1x3 : x3.cell? ⟨w.heap.size, 1, none⟩ = some (.int .u64 fo) := blk_cell HFx3.out rfl
          have f2x3 : x3.cell? ⟨w.heap.size, 2, none⟩ = some (.slice (some ⟨gt, ot, none⟩) n ct) := blk_cell HFx3.out rfl
          clear hb C f0x2 f1x2 f2x2
          have hmk := make_words x3 n (by have := HH.out.1.n8; omega)
          have hD3 := heap_new x3 (.cells (cw n (fun _ => 0)) 23)
          have HD3 := hideP (row_LW (by have := HH.out.1.n8; omega) hD3)
          clear hD3
          go_wp2
          go_ret2
          refine ⟨⟨_, by rw [HRD.out.1, decide_eq_false HE1.out]; rfl, ?_⟩, HBx3.out.trans (((Below.refl _ _).alloc (Nat.le_refl _) _).mono HBx3.out.size)⟩
          rw [HRD.out.2, if_neg HE1.out]
          exact HD3.out.congr (fun j _ => by simp [limb])
        · rw [decide_eq_false hlt1] at C
          have HN1 := hideP hlt1
          clear hlt1
          go_wp2_with fail
          refine C.out.mono ?_
          rintro r x3 ⟨rfl, hb⟩
          have HFx3 := hideP ((hb.block _ (lt_of_block HFx2.out)).trans HFx2.out)
          have HBx3 := hideP (HBx2.out.trans (hb.mono HBx2.out.size))
          replace HLR := hideP (HLR.out.moved hb)
          have f0x3 : x3.cell? ⟨w.heap.size, 0, none⟩ = some (.slice (some ⟨gm, om, none⟩) n cm) := blk_cell HFx3.out rfl
          have f1x3 : x3.cell? ⟨w.heap.size, 1, none⟩ = some (.int .u64 fo) := blk_cell HFx3.out rfl
          have f2x3 : x3.cell? ⟨w.heap.size, 2, none⟩ = some (.slice (some ⟨gt, ot, none⟩) n ct) := blk_cell HFx3.out rfl
          clear hb C f0x2 f1x2 f2x2
          have C := hideP (rmulMod_any HH.out.1 R0 R0 HR0.out HR0.out x3 _ vr vr (HFF.out.moved HBx3.out) HLR.out HLR.out)
          go_wp2_with fail
          refine C.out.mono ?_
          rintro r x4 ⟨⟨vs4, rfl, hL⟩, hb⟩
          have HLS4 := hideP hL
          have HFx4 := hideP ((hb.block _ (lt_of_block HFx3.out)).trans HFx3.out)
          have HBx4 := hideP (HBx3.out.trans (hb.mono HBx3.out.size))
          replace HLR := hideP (HLR.out.moved hb)
          have f0x4 : x4.cell? ⟨w.heap.size, 0, none⟩ = some (.slice (some ⟨gm, om, none⟩) n cm) := blk_cell HFx4.out rfl
          have f1x4 : x4.cell? ⟨w.heap.size, 1, none⟩ = some (.int .u64 fo) := blk_cell HFx4.out rfl
          have f2x4 : x4.cell? ⟨w.heap.size, 2, none⟩ = some (.slice (some ⟨gt, ot, none⟩) n ct) := blk_cell HFx4.out rfl
          clear hL hb C f0x3 f1x3 f2x3
          have C := hideP (rlt_any HH.out.1.n8 X (R0 * R0 % M) (Nat.lt_trans HH.out.2 HH.out.1.lt) (Nat.lt_trans HS0.out HH.out.1.lt) x4 u vs4 (HU.out.moved HBx4.out) HLS4.out)
          by_cases hlt2 : X < R0 * R0 % M
          · rw [decide_eq_true hlt2] at C
            have HE1 := hideP (show ¬ R0 * R0 % M = X by omega)
            clear hlt2
            go_wp2_with fail
            refine C.out.mono ?_
            rintro r x5 ⟨rfl, hb⟩
            have HFx5 := hideP ((hb.block _ (lt_of_block HFx4.out)).trans HFx4.out)
            have HBx5 := hideP (HBx4.out.trans (hb.mono HBx4.out.size))
            have f0x5 : x5.cell? ⟨w.heap.size, 0, none⟩ = some (.slice (some ⟨gm, om, none⟩) n cm) := blk_cell HFx5.out rfl
            have f1x5 : x5.cell? ⟨w.heap.size, 1, none⟩ = some (.int .u64 fo) := blk_cell HFx5.out rfl
            have f2x5 : x5.cell? ⟨w.heap.size, 2, none⟩ = some (.slice (some ⟨gt, ot, none⟩) n ct) := blk_cell HFx5.out rfl
            clear hb C f0x4 f1x4 f2x4
            have hmk := make_words x5 n (by have := HH.out.1.n8; omega)
            have hD3 := heap_new x5 (.cells (cw n (fun _ => 0)) 23)
            have HD3 := hideP (row_LW (by have := HH.out.1.n8; omega) hD3)
            clear hD3
            go_wp2
            go_ret2
            refine ⟨⟨_, by rw [HRD.out.1, decide_eq_false HE1.out]; rfl, ?_⟩, HBx5.out.trans (((Below.refl _ _).alloc (Nat.le_refl _) _).mono HBx5.out.size)⟩
            rw [HRD.out.2, if_neg HE1.out]
            exact HD3.out.congr (fun j _ => by simp [limb])
          · rw [decide_eq_false hlt2] at C
            have HE1 := hideP (show R0 * R0 % M = X by have := HN1.out; omega)
            clear hlt2
            go_wp2_with fail
            refine C.out.mono ?_
            rintro r x5 ⟨rfl, hb⟩
            have HFx5 := hideP ((hb.block _ (lt_of_block HFx4.out)).trans HFx4.out)
            have HBx5 := hideP (HBx4.out.trans (hb.mono HBx4.out.size))
            replace HLR := hideP (HLR.out.moved hb)
            have f0x5 : x5.cell? ⟨w.heap.size, 0, none⟩ = some (.slice (some ⟨gm, om, none⟩) n cm) := blk_cell HFx5.out rfl
            have f1x5 : x5.cell? ⟨w.heap.size, 1, none⟩ = some (.int .u64 fo) := blk_cell HFx5.out rfl
            have f2x5 : x5.cell? ⟨w.heap.size, 2, none⟩ = some (.slice (some ⟨gt, ot, none⟩) n ct) := blk_cell HFx5.out rfl
            clear hb C f0x4 f1x4 f2x4
            go_wp2
            go_ret2
            refine ⟨⟨_, by rw [HRD.out.1, decide_eq_true HE1.out]; rfl, ?_⟩, HBx5.out⟩
            rw [HRD.out.2, if_pos HE1.out]
            exact HLR.out
      · have hq : M / 4 = (M + 1) / 4 := by omega
        rw [h4] at hr4 hw4
        have HFwr := HFb
        have HBwr := HBr
        have f0wr := f0
        have f1wr := f1
        have f2wr := f2
        rw [hq] at HE0
        have HLE := HE0
        clear h4 hq hlt4 hod HFb HBr f0 f1 f2 HE0
        replace hr4 : (m0 : Int).tmod 4 = 1 := hr4
        replace hw4 : IntKind.u64.wrap (1 : Int) = 1 := hw4
        go_wp2_with fail
        refine HK2.out _ _ ?_
        have C := hideP (rexp_any HH.out.1 X HH.out.2 n HH.out.1.n8 (limb ((M + 1) / 4)) wr _ u _ (HFF.out.moved HBwr.out) (HU.out.moved HBwr.out) HLE.out.exp)
        rw [val_limbs (Nat.lt_of_le_of_lt (show (M + 1) / 4 ≤ M by have := HH.out.1.ge; omega) HH.out.1.lt)] at C
        go_wp2_with fail
        refine C.out.mono ?_
        rintro r x1 ⟨⟨vr, rfl, hL⟩, hb⟩
        have HLR := hideP hL
        have HFx1 := hideP ((hb.block _ (lt_of_block HFwr.out)).trans HFwr.out)
        have HBx1 := hideP (HBwr.out.trans (hb.mono HBwr.out.size))
        have f0x1 : x1.cell? ⟨w.heap.size, 0, none⟩ = some (.slice (some ⟨gm, om, none⟩) n cm) := blk_cell HFx1.out rfl
        have f1x1 : x1.cell? ⟨w.heap.size, 1, none⟩ = some (.int .u64 fo) := blk_cell HFx1.out rfl
        have f2x1 : x1.cell? ⟨w.heap.size, 2, none⟩ = some (.slice (some ⟨gt, ot, none⟩) n ct) := blk_cell HFx1.out rfl
        clear hL hb C
        have hR0 : X ^ ((M + 1) / 4) % M < M := Nat.mod_lt _ HH.out.1.pos
        have HRD : Hid (rootDB M X = decide (X ^ ((M + 1) / 4) % M * (X ^ ((M + 1) / 4) % M) % M = X) ∧ rootD M X = if X ^ ((M + 1) / 4) % M * (X ^ ((M + 1) / 4) % M) % M = X then X ^ ((M + 1) / 4) % M else 0) := ⟨rfl, rfl⟩
        generalize X ^ ((M + 1) / 4) % M = R0 at *
        have C := hideP (rmulMod_any HH.out.1 R0 R0 hR0 hR0 x1 _ vr vr (HFF.out.moved HBx1.out) HLR.out HLR.out)
        have HR0 := hideP hR0
        clear hR0
        go_wp2_with fail
        refine C.out.mono ?_
        rintro r x2 ⟨⟨vs, rfl, hL⟩, hb⟩
        have HLS := hideP hL
        have HFx2 := hideP ((hb.block _ (lt_of_block HFx1.out)).trans HFx1.out)
        have HBx2 := hideP (HBx1.out.trans (hb.mono HBx1.out.size))
        replace HLR := hideP (HLR.out.moved hb)
        have f0x2 : x2.cell? ⟨w.heap.size, 0, none⟩ = some (.slice (some ⟨gm, om, none⟩) n cm) := blk_cell HFx2.out rfl
        have f1x2 : x2.cell? ⟨w.heap.size, 1, none⟩ = some (.int .u64 fo) := blk_cell HFx2.out rfl
        have f2x2 : x2.cell? ⟨w.heap.size, 2, none⟩ = some (.slice (some ⟨gt, ot, none⟩) n ct) := blk_cell HFx2.out rfl
        clear hL hb C f0x1 f1x1 f2x1
        have hS0 : R0 * R0 % M < M := Nat.mod_lt _ HH.out.1.pos
        have C := hideP (rlt_any HH.out.1.n8 (R0 * R0 % M) X (Nat.lt_trans hS0 HH.out.1.lt) (Nat.lt_trans HH.out.2 HH.out.1.lt) x2 vs u HLS.out (HU.out.moved HBx2.out))
        have HS0 := hideP hS0
        clear hS0
        by_cases hlt1 : R0 * R0 % M < X
        · rw [decide_eq_true hlt1] at C
          have HE1 := hideP (show ¬ R0 * R0 % M = X by omega)
          clear hlt1
          go_wp2_with fail
          refine C.out.mono ?_
          rintro r x3 ⟨rfl, hb⟩
          have HFx3 := hideP ((hb.block _ (lt_of_block HFx2.out)).trans HFx2.out)
          have HBx3 := hideP (HBx2.out.trans (hb.mono HBx2.out.size))
          have f0x3 : x3.cell? ⟨w.heap.size, 0, none⟩ = some (.slice (some ⟨gm, om, none⟩) n cm) := blk_cell HFx3.out rfl
          have f1x3 : x3.cell? ⟨w.heap.size, 1, none⟩ = some (.int .u64 fo) := blk_cell HFx3.out rfl
          have f2x3 : x3.cell? ⟨w.heap.size, 2, none⟩ = some (.slice (some ⟨gt, ot, none⟩) n ct) := blk_cell HFx3.out rfl
          clear hb C f0x2 f1x2 f2x2
          have hmk := make_words x3 n (by have := HH.out.1.n8; omega)
          have hD3 := heap_new x3 (.cells (cw n (fun _ => 0)) 23)
          have HD3 := hideP (row_LW (by have := HH.out.1.n8; omega) hD3)
          clear hD3
          go_wp2
          go_ret2
          refine ⟨⟨_, by rw [HRD.out.1, decide_eq_false HE1.out]; rfl, ?_⟩, HBx3.out.trans (((Below.refl _ _).alloc (Nat.le_refl _) _).mono HBx3.out.size)⟩
          rw [HRD.out.2, if_neg HE1.out]
          exact HD3.out.congr (fun j _ => by simp [limb])
        · rw [decide_eq_false hlt1] at C
          have HN1 := hideP hlt1
          clear hlt1
          go_wp2_with fail
          refine C.out.mono ?_
          rintro r x3 ⟨rfl, hb⟩
          have HFx3 := hideP ((hb.block _ (lt_of_block HFx2.out)).trans HFx2.out)
          have HBx3 := hideP (HBx2.out.trans (hb.mono HBx2.out.size))
          replace HLR := hideP (HLR.out.moved hb)
          have f0x3 : x3.cell? ⟨w.heap.size, 0, none⟩ = some (.slice (some ⟨gm, om, none⟩) n cm) := blk_cell HFx3.out rfl
          have f1x3 : x3.cell? ⟨w.heap.size, 1, none⟩ = some (.int .u64 fo) := blk_cell HFx3.out rfl
          have f2x3 : x3.cell? ⟨w.heap.size, 2, none⟩ = some (.slice (some ⟨gt, ot, none⟩) n ct) := blk_cell HFx3.out rfl
          clear hb C f0x2 f1x2 f2x2
          have C := hideP (rmulMod_any HH.out.1 R0 R0 HR0.out HR0.out x3 _ vr vr (HFF.out.moved HBx3.out) HLR.out HLR.out)
          go_wp2_with fail
          refine C.out.mono ?_
          rintro r x4 ⟨⟨vs4, rfl, hL⟩, hb⟩
          have HLS4 := hideP hL
          have HFx4 := hideP ((hb.block _ (lt_of_block HFx3.out)).trans HFx3.out)
          have HBx4 := hideP (HBx3.out.trans (hb.mono HBx3.out.size))
          replace HLR := hideP (HLR.out.moved hb)
          have f0x4 : x4.cell? ⟨w.heap.size, 0, none⟩ = some (.slice (some ⟨gm, om, none⟩) n cm) := blk_cell HFx4.out rfl
          have f1x4 : x4.cell? ⟨w.heap.size, 1, none⟩ = some (.int .u64 fo) := blk_cell HFx4.out rfl
          have f2x4 : x4.cell? ⟨w.heap.size, 2, none⟩ = some (.slice (some ⟨gt, ot, none⟩) n ct) := blk_cell HFx4.out rfl
          clear hL hb C f0x3 f1x3 f2x3
          have C := hideP (rlt_any HH.out.1.n8 X (R0 * R0 % M) (Nat.lt_trans HH.out.2 HH.out.1.lt) (Nat.lt_trans HS0.out HH.out.1.lt) x4 u vs4 (HU.out.moved HBx4.out) HLS4.out)
          by_cases hlt2 : X < R0 * R0 % M
          · rw [decide_eq_true hlt2] at C
            have HE1 := hideP (show ¬ R0 * R0 % M = X by omega)
            clear hlt2
            go_wp2_with fail
            refine C.out.mono ?_
            rintro r x5 ⟨rfl, hb⟩
            have HFx5 := hideP ((hb.block _ (lt_of_block HFx4.out)).trans HFx4.out)
            have HBx5 := hideP (HBx4.out.trans (hb.mono HBx4.out.size))
            have f0x5 : x5.cell? ⟨w.heap.size, 0, none⟩ = some (.slice (some ⟨gm, om, none⟩) n cm) := blk_cell HFx5.out rfl
            have f1x5 : x5.cell? ⟨w.heap.size, 1, none⟩ = some (.int .u64 fo) := blk_cell HFx5.out rfl
            have f2x5 : x5.cell? ⟨w.heap.size, 2, none⟩ = some (.slice (some ⟨gt, ot, none⟩) n ct) := blk_cell HFx5.out rfl
            clear hb C f0x4 f1x4 f2x4
            have hmk := make_words x5 n (by have := HH.out.1.n8; omega)
            have hD3 := heap_new x5 (.cells (cw n (fun _ => 0)) 23)
            have HD3 := hideP (row_LW (by have := HH.out.1.n8; omega) hD3)
            clear hD3
            go_wp2
            go_ret2
            refine ⟨⟨_, by rw [HRD.out.1, decide_eq_false HE1.out]; rfl, ?_⟩, HBx5.out.trans (((Below.refl _ _).alloc (Nat.le_refl _) _).mono HBx5.out.size)⟩
            rw [HRD.out.2, if_neg HE1.out]
            exact HD3.out.congr (fun j _ => by simp [limb])
          · rw [decide_eq_false hlt2] at C
            have HE1 := hideP (show R0 * R0 % M = X by have := HN1.out; omega)
            clear hlt2
            go_wp2_with fail
            refine C.out.mono ?_
            rintro r x5 ⟨rfl, hb⟩
            have HFx5 := hideP ((hb.block _ (lt_of_block HFx4.out)).trans HFx4.out)
            have HBx5 := hideP (HBx4.out.trans (hb.mono HBx4.out.size))
            replace HLR := hideP (HLR.out.moved hb)
            have f0x5 : x5.cell? ⟨w.heap.size, 0, none⟩ = some (.slice (some ⟨gm, om, none⟩) n cm) := blk_cell HFx5.out rfl
            have f1x5 : x5.cell? ⟨w.heap.size, 1, none⟩ = some (.int .u64 fo) := blk_cell HFx5.out rfl
            have f2x5 : x5.cell? ⟨w.heap.size, 2, none⟩ = some (.slice (some ⟨gt, ot, none⟩) n ct) := blk_cell HFx5.out rfl
            clear hb C f0x4 f1x4 f2x4
            go_wp2
            go_ret2
            refine ⟨⟨_, by rw [HRD.out.1, decide_eq_true HE1.out]; rfl, ?_⟩, HBx5.out⟩
            rw [HRD.out.2, if_pos HE1.out]
            exact HLR.out
end Go.Proofs.Ytiekipkmfopdoaa
