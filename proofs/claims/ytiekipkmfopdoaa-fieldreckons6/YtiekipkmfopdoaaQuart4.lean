/-
  A quarter of a modulus.
-/
import Derived.Test.YtiekipkmfopdoaaWords4
namespace Go.Proofs.Ytiekipkmfopdoaa.W4
open Go.RowKit Go.Shelf

theorem or_parts (a b : Nat) (ha : a < 4611686018427387904) (hb : b < 4) : bits .or .u64 (a : Int) ((b * 4611686018427387904 : Nat) : Int) = ((a + b * 4611686018427387904 : Nat) : Int) := by
  have h := bits_or_u64_nat a (b * 4611686018427387904) (by omega) (by omega)
  have e : a ||| b * 4611686018427387904 = a + b * 4611686018427387904 := by
    rw [show b * 4611686018427387904 = 2 ^ 62 * b by omega, Nat.or_comm, ← Nat.two_pow_add_eq_or_of_lt (by omega : a < 2 ^ 62) b]
    omega
  rw [h, e]

theorem limb_quarter (m j : Nat) : limb (m / 4) j = limb m j / 4 + limb m (j + 1) % 4 * 4611686018427387904 := by
  unfold limb
  rw [Nat.div_div_eq_div_mul, Nat.mul_comm 4, ← Nat.div_div_eq_div_mul, Nat.pow_succ, ← Nat.div_div_eq_div_mul]
  generalize m / 18446744073709551616 ^ j = A
  omega

theorem limb_top {m : Nat} (h : m < R) : limb m 4 = 0 := by
  unfold limb
  rw [Nat.div_eq_of_lt (by rw [← R_eq]; exact h)]

set_option maxHeartbeats 2000000 in
set_option maxRecDepth 100000 in
theorem quarter_any (m : Nat) (hm : m < R) (hodd : m % 2 = 1) (w : World) : Calls Try.prog 80 #[wv m] w fun r w' => r = .returned (wv ((m + 1) / 4)) ∧ Below w.heap.size w w' := by
  have HM := hideP hm
  have hq : m / 4 + limb m 0 / 2 % 2 = (m + 1) / 4 := by
    unfold limb
    rw [Nat.pow_zero, Nat.div_one]
    omega
  have hbl : limb m 0 / 2 % 2 < 18446744073709551616 := by omega
  have HS := hideP (fun w => small_any (limb m 0 / 2 % 2) hbl w)
  have hR4 : m / 4 < R := by omega
  have hbR : limb m 0 / 2 % 2 < R := Nat.lt_trans (show limb m 0 / 2 % 2 < 2 by omega) (by decide)
  have hpl := fun w => plus_any (m / 4) (limb m 0 / 2 % 2) hR4 hbR w
  rw [hq, Nat.mod_eq_of_lt (show (m + 1) / 4 < R by omega), Nat.div_eq_of_lt (show (m + 1) / 4 < R by omega)] at hpl
  have HP := hideP hpl
  have hand : bits .and .u64 ((limb m 0 : Int) / 2) 1 = ((limb m 0 / 2 % 2 : Nat) : Int) := by
    have := and_one (limb m 0 / 2) (by have := limb_lt m 0; omega)
    rw [← this]
    congr 1
  generalize limb m 0 / 2 % 2 = bq at *
  clear hm hodd hq hbl hR4 hbR hpl
  unfold wv at HS HP ⊢
  rw [show cs (limb m) = #[.int .u64 (limb m 0), .int .u64 (limb m 1), .int .u64 (limb m 2), .int .u64 (limb m 3)] from rfl]
  go_enter Try.func80, Try.ntmps80
  go_wp2_with fail
  rename_i Q' K hK
  have HK := hideP hK
  clear hK
  refine at_world (fun W0 hW0 => ?_)
  have hA : W0.heap[w.heap.size]? = some (.cells (cs (limb m)) 24 (0, 0)) := by
    rw [hW0]
    exact (heap_old _ _ (by simp <;> omega)).trans ((heap_old _ _ (by simp)).trans (heap_new _ _))
  have hD : W0.heap[w.heap.size + 1]? = some (.cells (cs (fun _ => 0)) 24 (0, 0)) := by
    rw [hW0]
    exact (heap_old _ _ (by simp)).trans (heap_new1 _ _ _)
  have hG : W0.heap[w.heap.size + 1 + 1]? = some (.cells (cs (fun _ => 0)) 24 (0, 0)) := by
    rw [hW0]
    exact heap_new2 _ _ _ _
  have HBW : Hid (Below w.heap.size w W0) := by
    show Below _ _ _
    rw [hW0]
    repeat first | exact Below.refl _ _ | (refine Below.alloc ?_ (by simp <;> omega) _)
  have HA := hideP hA
  have HD := hideP hD
  have HG := hideP hG
  have hL0 := limb_top HM.out
  have HI0 : Hid (W0.heap[w.heap.size + 1 + 1]? = some (.cells (cs (fun j => if 4 ≤ j + 0 then limb (m / 4) j else 0)) 24 (0, 0))) := by
    show _ = _
    rw [cs_congr (g := fun _ => 0) (fun j hj => by rw [if_neg (by omega)])]
    exact hG
  clear hW0 hA hD hG
  have hwI3 : IntKind.i64.wrap (3 : Int) = 3 := rfl
  go_loopw [4, 9] (fun a i wr => ∃ k : Nat, k ≤ 4 ∧ i = .int .i64 k ∧ a = .int .u64 (limb m (4 - k)) ∧ wr.heap[w.heap.size + 1 + 1]? = some (.cells (cs (fun j => if 4 ≤ j + k then limb (m / 4) j else 0)) 24 (0, 0)) ∧ But (w.heap.size + 1 + 1) W0 wr) (fun _ i _ => 4 - (intOf i).toNat)
  case atStart => exact ⟨0, Nat.zero_le _, rfl, by rw [Nat.sub_zero, hL0]; rfl, HI0.out, But.refl _ _⟩
  case round =>
    obtain ⟨k, hk, rfl, rfl, hg, hb⟩ := hrel
    by_cases hlt : k < 4
    · have hA3 := (hb.same _ (show w.heap.size ≠ w.heap.size + 1 + 1 by omega)).trans HA.out
      obtain ⟨q0, q1, q2, q3⟩ := cells hA3
      have hq := limb_quarter m (3 - k)
      rw [show 3 - k + 1 = 4 - k by omega] at hq
      have ca := blk_cell hA3 (get (limb m) (show 3 - k < 4 by omega))
      have cg := blk_cell hg (get _ (show 3 - k < 4 by omega))
      have fr : ∀ o, wr.frozen? ⟨w.heap.size + 1 + 1, o, none⟩ = false := fun o => blk_free hg
      have h3 := blk_set (o := 3 - k) hg (.int .u64 (limb (m / 4) (3 - k)))
      rw [set _ _ (by omega), cs_congr (g := fun j => if 4 ≤ j + (k + 1) then limb (m / 4) j else 0) (fun j hj => by
        by_cases h1 : j = 3 - k
        · rw [if_pos h1, if_pos (by omega), h1]
        · rw [if_neg h1]
          by_cases h2 : 4 ≤ j + k
          · rw [if_pos h2, if_pos (by omega)]
          · rw [if_neg h2, if_neg (by omega)])] at h3
      have hor : bits .or .u64 ((limb m (3 - k) : Int) / 4) (IntKind.u64.wrap ((limb m (4 - k) : Int) * 4611686018427387904)) = (limb (m / 4) (3 - k) : Int) := by
        have h1 := limb_lt m (3 - k)
        have h2 := limb_lt m (4 - k)
        have e1 : ((limb m (3 - k) : Int) / 4) = ((limb m (3 - k) / 4 : Nat) : Int) := by omega
        have e2 : IntKind.u64.wrap ((limb m (4 - k) : Int) * 4611686018427387904) = ((limb m (4 - k) % 4 * 4611686018427387904 : Nat) : Int) := by
          rw [IntKind.wrap_u64]; omega
        rw [e1, e2, or_parts _ _ (by omega) (by omega), ← hq]
      have hlt' : (k : Int) < 4 := by omega
      have e4 : IntKind.i64.wrap ((k : Int) + 1) = (k : Int) + 1 := by rw [IntKind.wrap_i64]; omega
      have e5 : IntKind.i64.wrap ((3 : Int) - (k : Int)) = ((3 - k : Nat) : Int) := by rw [IntKind.wrap_i64]; omega
      have g1 : ((3 - k : Nat) : Int) < 4 := by omega
      have HL : Hid (4 - (k + 1) = 3 - k) := (by omega : 4 - (k + 1) = 3 - k)
      generalize 3 - k = jj at *
      generalize limb (m / 4) jj = lq at *
      generalize limb m (4 - k) = la at *
      have H3 := hideP h3
      have HB := hideP hb
      have HKS : Hid (k + 1 ≤ 4) := hlt
      clear hg hb hk hlt h3 hq hA3
      go_wp2_with fail
      exact ⟨⟨k + 1, HKS.out, by go_num, by rw [HL.out], H3.out, HB.out.set _ _⟩, by have := HKS.out; simp [intOf]; omega⟩
    · have hkn : k = 4 := by omega
      have hnl : ¬ (k : Int) < 4 := by omega
      rw [hkn, cs_congr (g := limb (m / 4)) (fun j hj => by rw [if_pos (by omega)])] at hg
      have hA3 := (hb.same _ (show w.heap.size ≠ w.heap.size + 1 + 1 by omega)).trans HA.out
      have hD3 := (hb.same _ (show w.heap.size + 1 ≠ w.heap.size + 1 + 1 by omega)).trans HD.out
      have ca := blk_cell hA3 (get (limb m) (show 0 < 4 by decide))
      have HG3 := hideP hg
      have HA3 := hideP hA3
      have HD3 := hideP hD3
      have HB := hideP (HBW.out.trans (hb.below.mono (by omega)))
      clear hg hb hk hlt hkn hA3 hD3
      go_wp2_with fail
      refine HK.out _ _ ?_
      refine wp_seqH (fun K2 HK2 => ?_)
      have nA : w.heap.size ≠ w.heap.size + 1 + 1 := by omega
      have nD : w.heap.size + 1 ≠ w.heap.size + 1 + 1 := by omega
      have hltA := lt_of_block HA3.out
      generalize hRR : w.heap.size + 1 + 1 = R0 at *
      refine wp_region_heldS (S := fun V => KP wr R0 V) (by kernel_rfl) (KP.init HG3.out) (fun hS => ?_)
      refine wpAnyH_takeL (i := 1) (v := ?_) rfl (by kernel_rfl) (by kernel_rfl) (by kernel_rfl) (fun _ _ _ h => h) (Or.inl ⟨by kernel_rfl, ?_⟩) hS ?_
      rotate_left
      · intro V hV
        go_simp
        (try with_reducible rfl)
      simp only [put_list, List.set_cons_succ, List.set_cons_zero]
      refine wpAnyH_takeL (i := 2) (v := ?_) rfl (by kernel_rfl) (by kernel_rfl) (by kernel_rfl) (fun _ _ _ h => h) (Or.inl ⟨by kernel_rfl, ?_⟩) hS ?_
      rotate_left
      · intro V hV
        have k0 := blk_cell (hV.box HA3.out nA) (get (limb m) (show 0 < 4 by decide))
        go_simp
        (try with_reducible rfl)
      simp only [put_list, List.set_cons_succ, List.set_cons_zero]
      refine wpAnyH_takeL (i := 3) (v := ?_) rfl (by kernel_rfl) (by kernel_rfl) (by kernel_rfl) (fun _ _ _ h => h) (Or.inl ⟨by kernel_rfl, ?_⟩) hS ?_
      rotate_left
      · intro V hV
        go_simp
        (try with_reducible rfl)
      simp only [put_list, List.set_cons_succ, List.set_cons_zero]
      refine wpAnyH_takeL (i := 4) (v := ?_) rfl (by kernel_rfl) (by kernel_rfl) (by kernel_rfl) (fun _ _ _ h => h) (Or.inl ⟨by kernel_rfl, ?_⟩) hS ?_
      rotate_left
      · intro V hV
        go_simp
        (try with_reducible rfl)
      simp only [put_list, List.set_cons_succ, List.set_cons_zero]
      refine wpAnyH_ready (rs := [0, 5]) (by kernel_rfl) (by simp) (AllReadyH.cons rfl (fun K hK => ?_) (AllReadyH.cons rfl (fun K hK => ?_) AllReadyH.nil))
      · refine ite_wp (by kernel_rfl) ?_
        refine wp_load_midD 24 (.tmp 3) 31 rfl rfl R0 0 (cs (limb (m / 4))) rfl _ (rangeOf HG3.out) under rfl (info _) ?_
        refine hK.out _ _ hS (fun hS => ?_)
        clear hK K
        simp only [List.set_cons_succ, List.set_cons_zero]
        refine wpAnyH_ready (rs := [5]) (by kernel_rfl) (by simp) (AllReadyH.cons rfl (fun K hK => ?_) AllReadyH.nil)
        go_simp
        refine (HS.out _).mono ?_
        rintro e w1 ⟨rfl, hbc⟩
        refine hK.out _ _ (hS.call hbc) (fun hS => ?_)
        clear hK K
        clear hbc
        refine wpAnyH_ready (rs := [6]) (by kernel_rfl) (by simp) (AllReadyH.cons rfl (fun K hK => ?_) AllReadyH.nil)
        go_simp
        refine (HP.out _).mono ?_
        rintro e w2 ⟨rfl, hbc⟩
        refine hK.out _ _ (hS.call hbc) (fun hS => ?_)
        clear hK K
        clear hbc
        refine wpAnyH_takeL (i := 7) (v := ?_) rfl (by kernel_rfl) (by kernel_rfl) (by kernel_rfl) (fun _ _ _ h => h) (Or.inl ⟨by kernel_rfl, ?_⟩) hS ?_
        rotate_left
        · intro V hV
          go_simp
          (try with_reducible rfl)
        simp only [put_list, List.set_cons_succ, List.set_cons_zero]
        refine wpAnyH_takeL (i := 8) (v := ?_) rfl (by kernel_rfl) (by kernel_rfl) (by kernel_rfl) (fun _ _ _ h => h) (Or.inl ⟨by kernel_rfl, ?_⟩) hS ?_
        rotate_left
        · intro V hV
          go_simp
          (try with_reducible rfl)
        simp only [put_list, List.set_cons_succ, List.set_cons_zero]
        refine wpAnyH_takeL (i := 9) (v := ?_) rfl (by kernel_rfl) (by kernel_rfl) (by kernel_rfl) (fun _ _ _ h => h) (Or.inl ⟨by kernel_rfl, ?_⟩) hS ?_
        rotate_left
        · intro V hV
          go_simp
          (try with_reducible rfl)
        simp only [put_list, List.set_cons_succ, List.set_cons_zero]
        refine wpAnyH_ready (rs := [10]) (by kernel_rfl) (by simp) (AllReadyH.cons rfl (fun K hK => ?_) AllReadyH.nil)
        refine ite_wp (by kernel_rfl) ?_
        refine wp_store_midN 24 (.tmp 3) (.tmp 38) rfl rfl (R0) 0 (cs (limb ((m + 1) / 4))) rfl rfl (hS.there _) (info _) (one _) ?_
        have g1 := hS.put ((limb ((m + 1) / 4)))
        have hS9 := hS.store ((limb ((m + 1) / 4)))
        clear hS
        generalize World.setCells _ (R0) 0 (cs (limb ((m + 1) / 4))).toList = w5 at g1 hS9 ⊢
        refine hK.out _ _ hS9 (fun hS => ?_)
        clear hK K hS9
        refine wpAnyH_done (by kernel_rfl) ?_ _
        (try simp only [put_none])
        refine HK2.out _ _ ?_
        have hD4 := hS.box HD3.out nD
        refine endRowQ (fun _ _ h => h) rfl rfl rfl (by decide) (by show 40 < 41; decide) rfl under rfl (info _) (one _) (rangeOf g1) (there_cs hD4 _) ?_
        intro wS hBut
        exact ⟨rfl, HB.out.trans ((hS.below.mono (by omega)).trans (hBut.below.mono (by omega)))⟩
      · go_simp
        refine (HS.out _).mono ?_
        rintro e w1 ⟨rfl, hbc⟩
        have hg1 := (hbc.block _ (lt_of_block HG3.out)).trans HG3.out
        refine hK.out _ _ (hS.call hbc) (fun hS => ?_)
        clear hK K hbc
        refine wpAnyH_ready (rs := [0]) (by kernel_rfl) (by simp) (AllReadyH.cons rfl (fun K hK => ?_) AllReadyH.nil)
        refine ite_wp (by kernel_rfl) ?_
        refine wp_load_midD 24 (.tmp 3) 31 rfl rfl R0 0 (cs (limb (m / 4))) rfl _ (rangeOf hg1) under rfl (info _) ?_
        refine hK.out _ _ hS (fun hS => ?_)
        clear hK K
        simp only [List.set_cons_succ, List.set_cons_zero]
        refine wpAnyH_ready (rs := [6]) (by kernel_rfl) (by simp) (AllReadyH.cons rfl (fun K hK => ?_) AllReadyH.nil)
        go_simp
        refine (HP.out _).mono ?_
        rintro e w2 ⟨rfl, hbc⟩
        refine hK.out _ _ (hS.call hbc) (fun hS => ?_)
        clear hK K
        clear hbc
        refine wpAnyH_takeL (i := 7) (v := ?_) rfl (by kernel_rfl) (by kernel_rfl) (by kernel_rfl) (fun _ _ _ h => h) (Or.inl ⟨by kernel_rfl, ?_⟩) hS ?_
        rotate_left
        · intro V hV
          go_simp
          (try with_reducible rfl)
        simp only [put_list, List.set_cons_succ, List.set_cons_zero]
        refine wpAnyH_takeL (i := 8) (v := ?_) rfl (by kernel_rfl) (by kernel_rfl) (by kernel_rfl) (fun _ _ _ h => h) (Or.inl ⟨by kernel_rfl, ?_⟩) hS ?_
        rotate_left
        · intro V hV
          go_simp
          (try with_reducible rfl)
        simp only [put_list, List.set_cons_succ, List.set_cons_zero]
        refine wpAnyH_takeL (i := 9) (v := ?_) rfl (by kernel_rfl) (by kernel_rfl) (by kernel_rfl) (fun _ _ _ h => h) (Or.inl ⟨by kernel_rfl, ?_⟩) hS ?_
        rotate_left
        · intro V hV
          go_simp
          (try with_reducible rfl)
        simp only [put_list, List.set_cons_succ, List.set_cons_zero]
        refine wpAnyH_ready (rs := [10]) (by kernel_rfl) (by simp) (AllReadyH.cons rfl (fun K hK => ?_) AllReadyH.nil)
        refine ite_wp (by kernel_rfl) ?_
        refine wp_store_midN 24 (.tmp 3) (.tmp 38) rfl rfl (R0) 0 (cs (limb ((m + 1) / 4))) rfl rfl (hS.there _) (info _) (one _) ?_
        have g1 := hS.put ((limb ((m + 1) / 4)))
        have hS9 := hS.store ((limb ((m + 1) / 4)))
        clear hS
        generalize World.setCells _ (R0) 0 (cs (limb ((m + 1) / 4))).toList = w5 at g1 hS9 ⊢
        refine hK.out _ _ hS9 (fun hS => ?_)
        clear hK K hS9
        refine wpAnyH_done (by kernel_rfl) ?_ _
        (try simp only [put_none])
        refine HK2.out _ _ ?_
        have hD4 := hS.box HD3.out nD
        refine endRowQ (fun _ _ h => h) rfl rfl rfl (by decide) (by show 40 < 41; decide) rfl under rfl (info _) (one _) (rangeOf g1) (there_cs hD4 _) ?_
        intro wS hBut
        exact ⟨rfl, HB.out.trans ((hS.below.mono (by omega)).trans (hBut.below.mono (by omega)))⟩

end Go.Proofs.Ytiekipkmfopdoaa.W4
