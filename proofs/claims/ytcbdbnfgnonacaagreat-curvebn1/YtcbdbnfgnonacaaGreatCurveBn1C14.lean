/-
  Making a ring.
-/
import Derived.Test.YtcbdbnfgnonacaaGreatCurveBn1C13
namespace Go.Proofs.YtcbdbnfgnonacaaGreat.W4
open Go.RowKit Go.Shelf

section
variable {w : World} {p m f o r : Nat}
theorem RingAt.thereOne (h : RingAt w p m f o r) (g : Nat → Nat) : w.there p (4 + 1) (cs g).size := fun j hj =>
  ⟨h.one.isSome j hj, blk_free h.heap⟩

theorem RingAt.thereRadix (h : RingAt w p m f o r) (g : Nat → Nat) : w.there p (2 * 4 + 1) (cs g).size := fun j hj =>
  ⟨h.radix.isSome j hj, blk_free h.heap⟩

theorem RingAt.putOne (h : RingAt w p m f o r) (o' : Nat) : RingAt (w.setCells p (4 + 1) (cs (limb o')).toList) p m f o' r := by
  have h1 := blk_sets (cs (limb o')).toList (4 + 1) h.heap
  refine ⟨h1.trans ?_⟩
  simp [rc, cs, putAll]

theorem RingAt.putRadix (h : RingAt w p m f o r) (r' : Nat) : RingAt (w.setCells p (2 * 4 + 1) (cs (limb r')).toList) p m f o r' := by
  have h1 := blk_sets (cs (limb r')).toList (2 * 4 + 1) h.heap
  refine ⟨h1.trans ?_⟩
  simp [rc, cs, putAll]

end

theorem limb0_mod (m : Nat) : limb m 0 % 2 = m % 2 := by unfold limb; rw [Nat.pow_zero, Nat.div_one]; omega

theorem fill_ok {m x : Nat} (hx : x < 18446744073709551616) (h : limb m 0 * x % 18446744073709551616 = 1) : ∃ f : Nat, f < 18446744073709551616 ∧ IntKind.u64.wrap (-(x : Int)) = (f : Int) ∧ (limb m 0 * f + 1) % 18446744073709551616 = 0 := by
  have hx0 : 0 < x := by
    apply Nat.pos_of_ne_zero
    intro e
    subst e
    simp at h
  refine ⟨18446744073709551616 - x, by omega, by rw [IntKind.wrap_u64]; omega, ?_⟩
  have e : limb m 0 * (18446744073709551616 - x) + limb m 0 * x = limb m 0 * 18446744073709551616 := by
    rw [← Nat.mul_add]; congr 1; omega
  generalize limb m 0 * (18446744073709551616 - x) = A at *
  generalize limb m 0 * x = C at *
  omega

theorem pow_split (h k : Nat) (hh : h ≤ 64 * k) : 2 ^ h * 2 ^ (64 * k - h) = 18446744073709551616 ^ k := by
  rw [← Nat.pow_add, Nat.add_sub_cancel' hh, Nat.pow_mul]

set_option maxHeartbeats 400000 in
set_option maxRecDepth 100000 in
theorem less_any (X Y : Nat) (hX : X < R) (hY : Y < R) (w : World) : Calls Tryz.prog 147 #[wv X, wv Y] w fun e w' => e = .returned (.bool (decide (X < Y))) ∧ Below w.heap.size w w' := by
  have HC := hideP (fun w => minus_any X Y hX hY w)
  have hd : decide (X < Y) = ((less1 X Y : Int) == 1) := by
    unfold less1
    by_cases h : X < Y <;> simp [h]
  rw [hd]
  clear hX hY hd
  generalize X + R * less1 X Y - Y = D at *
  generalize less1 X Y = b at *
  unfold wv cs at HC
  unfold wv cs
  go_enter Tryz.func147, Tryz.ntmps147
  go_wp2_with fail
  refine at_world_q (fun W0 hW0 => ?_)
  have HBW : Hid (Below w.heap.size w W0) := by
    show Below _ _ _
    rw [hW0]
    repeat first | exact Below.refl _ _ | (refine Below.alloc ?_ (by simp <;> omega) _)
  clear hW0
  refine (HC.out _).mono ?_
  rintro e w1 ⟨rfl, hb⟩
  have HB := hideP (HBW.out.trans (hb.mono HBW.out.size))
  clear hb
  go_wp2
  go_ret
  refine ⟨rfl, ?_⟩
  have hs := HB.out.size
  repeat first | exact HB.out | apply Below.drew | (refine Below.alloc ?_ hs _) | (refine Below.alloc ?_ (by simp <;> omega) _) | (refine Below.setCell ?_ (by simp <;> omega) _)

theorem at_worldX {Q : Exit → Act → World → Prop} {e : Exit} {a : Act} {w : World} (h : ∀ W0, W0 = w → Q e a W0) : Q e a w := h w rfl

theorem el_one (m : Nat) : R % m = el m 1 := by unfold el; rw [Nat.one_mul]

set_option maxHeartbeats 8000000 in
set_option maxRecDepth 100000 in
theorem make_ok (m : Nat) (hm : m < R) (hodd : m % 2 = 1) (h3 : 3 ≤ m) (w : World) : Calls Tryz.prog 71 #[wv m] w fun e w' => ∃ p : Nat, e = .returned (.tuple #[.pointer (some ⟨p, 0, none⟩), .int .i64 0]) ∧ w.heap.size ≤ p ∧ Good w' p m ∧ Below w.heap.size w w' := by
  have h0 := limb0_mod m
  have HS := hideP (fun w => small_any 3 (by decide) w)
  replace HS : Hid (∀ w, Calls Tryz.prog 148 #[.int .u64 (3 : Int)] w fun e w' => e = .returned (wv 3) ∧ Below w.heap.size w w') := HS
  have HL := hideP (fun w => less_any m 3 hm (by decide) w)
  have HBL := hideP (fun w => bitLength_any m hm (by omega) w)
  have HINV := hideP (fun w => inverse_any (limb m 0) (by omega) w)
  have HM := hideP hm
  have HO := hideP hodd
  have H3 := hideP h3
  have e1 : ((limb m 0 : Int)).tmod 2 = 1 := by rw [Int.tmod_eq_emod_of_nonneg (by omega)]; omega
  have e2 : IntKind.u64.wrap (1 : Int) = 1 := rfl
  rw [decide_eq_false (show ¬ m < 3 by omega)] at HL
  unfold wv at HS HL HBL ⊢
  unfold cs
  clear hm hodd h3 h0
  go_enter Tryz.func71, Tryz.ntmps71
  go_wp2_with fail
  rename_i Q' K hK
  have HK := hideP hK
  clear hK
  refine at_world (fun W0 hW0 => ?_)
  have hA : W0.heap[w.heap.size]? = some (.cells (cs (limb m)) 32 (0, 0)) := by
    rw [hW0]
    exact heap_new _ _
  have HBW : Hid (Below w.heap.size w W0) := by
    show Below _ _ _
    rw [hW0]
    repeat first | exact Below.refl _ _ | (refine Below.alloc ?_ (by simp <;> omega) _)
  clear hW0
  have c0 := blk_cell hA (get (limb m) (show 0 < 4 by decide))
  have hlt := lt_of_block hA
  have HA := hideP hA
  clear hA
  refine wp_region_heldS (S := fun V => Below W0.heap.size W0 V) (by kernel_rfl) ((Below.refl _ _).drew) (fun hS => ?_)
  refine wpAnyH_takeL (i := 0) (v := ?_) rfl (by kernel_rfl) (by kernel_rfl) (by kernel_rfl) (fun _ _ _ h => h) (Or.inl ⟨by kernel_rfl, ?_⟩) hS ?_
  rotate_left
  · intro V hV
    go_simp
    (try with_reducible rfl)
  simp only [put_list, List.set_cons_succ, List.set_cons_zero]
  refine wpAnyH_takeL (i := 1) (v := ?_) rfl (by kernel_rfl) (by kernel_rfl) (by kernel_rfl) (fun _ _ _ h => h) (Or.inl ⟨by kernel_rfl, ?_⟩) hS ?_
  rotate_left
  · intro V hV
    have k0 := (hV.cell (p := ⟨w.heap.size, 0, none⟩) hlt).trans c0
    go_simp
    (try with_reducible rfl)
  simp only [put_list, List.set_cons_succ, List.set_cons_zero]
  refine wpAnyH_takeL (i := 2) (v := ?_) rfl (by kernel_rfl) (by kernel_rfl) (by kernel_rfl) (fun _ _ _ h => h) (Or.inl ⟨by kernel_rfl, ?_⟩) hS ?_
  rotate_left
  · intro V hV
    go_simp
    (try with_reducible rfl)
  simp only [put_list, List.set_cons_succ, List.set_cons_zero]
  refine wpAnyH_takeL (i := 3) (v := ?_) rfl (by kernel_rfl) (by kernel_rfl) (by kernel_rfl) (fun _ _ _ h => h) (Or.inl ⟨by kernel_rfl, ?_⟩) hS ?_
  rotate_left
  · intro V hV
    go_simp
    (try with_reducible rfl)
  simp only [put_list, List.set_cons_succ, List.set_cons_zero]
  refine wpAnyH_takeL (i := 4) (v := ?_) rfl (by kernel_rfl) (by kernel_rfl) (by kernel_rfl) (fun _ _ _ h => h) (Or.inl ⟨by kernel_rfl, ?_⟩) hS ?_
  rotate_left
  · intro V hV
    go_simp
    (try with_reducible rfl)
  simp only [put_list, List.set_cons_succ, List.set_cons_zero]
  refine wpAnyH_takeL (i := 5) (v := .agg (cs (limb m))) rfl (by kernel_rfl) (by kernel_rfl) (by kernel_rfl) (fun _ _ _ h => h) (yieldsIf_load_mid (by kernel_rfl) 32 _ rfl (w.heap.size) (0) rfl (cs (limb m)).toList _ (fun V hV => rangeOf ((hV.block _ (lt_of_block HA.out)).trans HA.out)) under rfl (info _)) hS ?_
  simp only [put_list, List.set_cons_succ, List.set_cons_zero]
  refine wpAnyH_ready (rs := [6]) (by kernel_rfl) (by simp) (AllReadyH.cons rfl (fun K hK => ?_) AllReadyH.nil)
  go_simp
  refine (HS.out _).mono ?_
  rintro e w1 ⟨rfl, hbc⟩
  refine hK.out _ _ (hS.trans (hbc.mono hS.size)) (fun hS => ?_)
  clear hK K
  clear hbc
  refine wpAnyH_ready (rs := [7]) (by kernel_rfl) (by simp) (AllReadyH.cons rfl (fun K hK => ?_) AllReadyH.nil)
  go_simp
  refine (HL.out _).mono ?_
  rintro e w2 ⟨rfl, hbc⟩
  refine hK.out _ _ (hS.trans (hbc.mono hS.size)) (fun hS => ?_)
  clear hK K
  clear hbc
  refine wpAnyH_takeL (i := 8) (v := ?_) rfl (by kernel_rfl) (by kernel_rfl) (by kernel_rfl) (fun _ _ _ h => h) (Or.inl ⟨by kernel_rfl, ?_⟩) hS ?_
  rotate_left
  · intro V hV
    go_simp
    (try with_reducible rfl)
  simp only [put_list, List.set_cons_succ, List.set_cons_zero]
  refine wpAnyH_done (by kernel_rfl) ?_ _
  (try simp only [put_none])
  have HB1 := hideP (HBW.out.trans (hS.mono HBW.out.size))
  have HA1 := hideP ((hS.block _ (lt_of_block HA.out)).trans HA.out)
  clear hS c0 hlt HS HL HA HBW
  go_wp2_with fail
  refine HK.out _ _ ?_
  refine wp_cond_false rfl (wp_skip ?_)
  clear HK
  go_wp2_with fail
  rename World => W1
  have c0 := blk_cell HA1.out (get (limb m) (show 0 < 4 by decide))
  have hlt := lt_of_block HA1.out
  refine wp_region_heldS (S := fun V => Below W1.heap.size W1 V) (by kernel_rfl) ((Below.refl _ _).drew) (fun hS => ?_)
  refine wpAnyH_takeL (i := 0) (v := .agg (cs (limb m))) rfl (by kernel_rfl) (by kernel_rfl) (by kernel_rfl) (fun _ _ _ h => h) (yieldsIf_load_mid (by kernel_rfl) 32 _ rfl (w.heap.size) (0) rfl (cs (limb m)).toList _ (fun V hV => rangeOf ((hV.block _ (lt_of_block HA1.out)).trans HA1.out)) under rfl (info _)) hS ?_
  simp only [put_list, List.set_cons_succ, List.set_cons_zero]
  refine wpAnyH_takeL (i := 1) (v := ?_) rfl (by kernel_rfl) (by kernel_rfl) (by kernel_rfl) (fun _ _ _ h => h) (Or.inl ⟨by kernel_rfl, ?_⟩) hS ?_
  rotate_left
  · intro V hV
    go_simp
    (try with_reducible rfl)
  simp only [put_list, List.set_cons_succ, List.set_cons_zero]
  refine wpAnyH_takeL (i := 2) (v := ?_) rfl (by kernel_rfl) (by kernel_rfl) (by kernel_rfl) (fun _ _ _ h => h) (Or.inl ⟨by kernel_rfl, ?_⟩) hS ?_
  rotate_left
  · intro V hV
    have k0 := (hV.cell (p := ⟨w.heap.size, 0, none⟩) hlt).trans c0
    go_simp
    (try with_reducible rfl)
  simp only [put_list, List.set_cons_succ, List.set_cons_zero]
  refine wpAnyH_ready (rs := [3]) (by kernel_rfl) (by simp) (AllReadyH.cons rfl (fun K hK => ?_) AllReadyH.nil)
  go_simp
  refine (HINV.out _).mono ?_
  rintro e w9 ⟨⟨x, rfl, hx, hxm⟩, rfl⟩
  refine hK.out _ _ hS (fun hS => ?_)
  clear hK K
  obtain ⟨f, hf, hwf, hff⟩ := fill_ok hx hxm
  refine wpAnyH_takeL (i := 4) (v := ?_) rfl (by kernel_rfl) (by kernel_rfl) (by kernel_rfl) (fun _ _ _ h => h) (Or.inl ⟨by kernel_rfl, ?_⟩) hS ?_
  rotate_left
  · intro V hV
    go_simp
    (try with_reducible rfl)
  simp only [put_list, List.set_cons_succ, List.set_cons_zero]
  refine wpAnyH_takeL (i := 5) (v := .agg (rc m f 0 0)) rfl (by kernel_rfl) (by kernel_rfl) (by kernel_rfl) (fun _ _ _ h => h) (Or.inl ⟨by kernel_rfl, ?_⟩) hS ?_
  · intro V hV
    unfold cs
    go_simp
    rfl
  simp only [put_list, List.set_cons_succ, List.set_cons_zero]
  refine wpAnyH_ready (rs := [6]) (by kernel_rfl) (by simp) (AllReadyH.cons rfl (fun K hK => ?_) AllReadyH.nil)
  go_simp
  refine hK.out _ _ (hS.alloc hS.size _) (fun hS => ?_)
  clear hK K
  refine wpAnyH_ready (rs := [7]) (by kernel_rfl) (by simp) (AllReadyH.cons rfl (fun K hK => ?_) AllReadyH.nil)
  go_simp
  refine hK.out _ _ hS (fun hS => ?_)
  clear hK K
  refine wpAnyH_done (by kernel_rfl) ?_ _
  (try simp only [put_none])
  refine at_worldX (fun W2 hW2 => ?_)
  have hr : RingAt W2 W1.heap.size m f 0 0 := ⟨by rw [hW2]; exact heap_new _ _⟩
  have hA2 : W2.heap[w.heap.size]? = some (.cells (cs (limb m)) 32 (0, 0)) := by
    rw [hW2]
    exact (heap_old _ _ hlt).trans HA1.out
  have HB2 : Hid (Below w.heap.size w W2) := by
    show Below _ _ _
    rw [hW2]
    exact Below.alloc HB1.out.drew HB1.out.size _
  have hMF : MF m f := ⟨HO.out, HM.out, H3.out, hff⟩
  generalize hPP : W1.heap.size = P at hr ⊢
  have hwP : w.heap.size < P := by omega
  clear hW2 hx hxm hf hwf hff c0 hPP HA1 HB1
  obtain ⟨q0, q1, q2, q3⟩ := cells hA2
  have HR2 := hideP hr
  have HMF := hideP hMF
  have HA2 := hideP hA2
  clear hr hMF hA2 hlt
  unfold cs at HBL
  go_wp2_with fail
  refine (HBL.out _).mono ?_
  rintro e W3 ⟨⟨n, rfl, hn1, hn2, hn3, hn4⟩, hb⟩
  obtain ⟨h, rfl⟩ : ∃ h, n = h + 1 := ⟨n - 1, by omega⟩
  rw [Nat.add_sub_cancel] at hn4
  have h2m : 2 ^ h < m := by
    rcases Nat.lt_or_eq_of_le hn4 with h1 | h1
    · exact h1
    · exfalso
      have := HO.out
      have := H3.out
      cases h with
      | zero => simp at h1; omega
      | succ h => rw [Nat.pow_succ] at h1; omega
  have hh : h < 256 := by omega
  have ew1 : IntKind.i64.wrap ((h : Int) + 1 - 1) = (h : Int) := by rw [IntKind.wrap_i64]; omega
  have ew2 : IntKind.i64.wrap (h : Int) = (h : Int) := by rw [IntKind.wrap_i64]; omega
  have ew4 : IntKind.i64.wrap (256 : Int) = 256 := rfl
  have ew3 : IntKind.i64.wrap (256 - (h : Int)) = ((256 - h : Nat) : Int) := by rw [IntKind.wrap_i64]; omega
  have hR2 : 2 ^ h * 2 ^ (256 - h) % m = el m 1 := by
    have hps : 2 ^ h * 2 ^ (256 - h) = R := (pow_split h 4 (by omega)).trans R_eq.symm
    rw [hps, el_one]
  have HR3 := hideP (HR2.out.below hb)
  have HA3 := hideP ((hb.block _ (lt_of_block HA2.out)).trans HA2.out)
  have HB3 := hideP (HB2.out.trans (hb.mono HB2.out.size))
  have hP3 : P < W3.heap.size := HR3.out.lt
  have HBIT := hideP (fun w => bit_any h hh w)
  have HDB : Hid (∀ w, RingAt w P m f 0 0 → Calls Tryz.prog 151 #[.pointer (some ⟨P, 0, none⟩), wv (2 ^ h), .int .i64 ((256 - h : Nat) : Int)] w fun e w' => e = .returned (wv (el m 1)) ∧ Below w.heap.size w w') := fun w hr => by
    have := double_any hr HMF.out (2 ^ h) (256 - h) h2m (by omega)
    rw [hR2] at this
    exact this
  unfold wv at HBIT HDB
  clear hb hn1 hn2 hn3 hn4 h2m hh hR2 HR2 HA2 HB2 HBL q0 q1 q2 q3
  go_wp2_with fail
  refine wp_region_heldS (S := fun V => Below P W3 V) (by kernel_rfl) ((Below.refl _ _).drew) (fun hS => ?_)
  refine wpAnyH_takeL (i := 0) (v := ?_) rfl (by kernel_rfl) (by kernel_rfl) (by kernel_rfl) (fun _ _ _ h => h) (Or.inl ⟨by kernel_rfl, ?_⟩) hS ?_
  rotate_left
  · intro V hV
    go_simp
    (try with_reducible rfl)
  simp only [put_list, List.set_cons_succ, List.set_cons_zero]
  refine wpAnyH_takeL (i := 1) (v := ?_) rfl (by kernel_rfl) (by kernel_rfl) (by kernel_rfl) (fun _ _ _ h => h) (Or.inl ⟨by kernel_rfl, ?_⟩) hS ?_
  rotate_left
  · intro V hV
    go_simp
    (try with_reducible rfl)
  simp only [put_list, List.set_cons_succ, List.set_cons_zero]
  refine wpAnyH_takeL (i := 2) (v := ?_) rfl (by kernel_rfl) (by kernel_rfl) (by kernel_rfl) (fun _ _ _ h => h) (Or.inl ⟨by kernel_rfl, ?_⟩) hS ?_
  rotate_left
  · intro V hV
    go_simp
    (try with_reducible rfl)
  simp only [put_list, List.set_cons_succ, List.set_cons_zero]
  refine wpAnyH_takeL (i := 4) (v := .agg (cs (limb m))) rfl (by kernel_rfl) (by kernel_rfl) (by kernel_rfl) (fun _ _ _ h => h) (yieldsIf_load_mid (by kernel_rfl) 32 _ rfl (w.heap.size) (0) rfl (cs (limb m)).toList _ (fun V hV => rangeOf ((hV.block _ hwP).trans HA3.out)) under rfl (info _)) hS ?_
  simp only [put_list, List.set_cons_succ, List.set_cons_zero]
  refine wpAnyH_takeL (i := 5) (v := ?_) rfl (by kernel_rfl) (by kernel_rfl) (by kernel_rfl) (fun _ _ _ h => h) (Or.inl ⟨by kernel_rfl, ?_⟩) hS ?_
  rotate_left
  · intro V hV
    go_simp
    (try with_reducible rfl)
  simp only [put_list, List.set_cons_succ, List.set_cons_zero]
  refine wpAnyH_takeL (i := 6) (v := ?_) rfl (by kernel_rfl) (by kernel_rfl) (by kernel_rfl) (fun _ _ _ h => h) (Or.inl ⟨by kernel_rfl, ?_⟩) hS ?_
  rotate_left
  · intro V hV
    go_simp
    (try with_reducible rfl)
  simp only [put_list, List.set_cons_succ, List.set_cons_zero]
  refine wpAnyH_takeL (i := 7) (v := ?_) rfl (by kernel_rfl) (by kernel_rfl) (by kernel_rfl) (fun _ _ _ h => h) (Or.inl ⟨by kernel_rfl, ?_⟩) hS ?_
  rotate_left
  · intro V hV
    go_simp
    (try with_reducible rfl)
  simp only [put_list, List.set_cons_succ, List.set_cons_zero]
  refine wpAnyH_takeL (i := 8) (v := ?_) rfl (by kernel_rfl) (by kernel_rfl) (by kernel_rfl) (fun _ _ _ h => h) (Or.inl ⟨by kernel_rfl, ?_⟩) hS ?_
  rotate_left
  · intro V hV
    go_simp
    (try with_reducible rfl)
  simp only [put_list, List.set_cons_succ, List.set_cons_zero]
  refine wpAnyH_ready (rs := [3]) (by kernel_rfl) (by simp) (AllReadyH.cons rfl (fun K hK => ?_) AllReadyH.nil)
  go_simp
  refine (HBIT.out _).mono ?_
  rintro e w5 ⟨rfl, hbc⟩
  refine hK.out _ _ (hS.trans (hbc.mono (Nat.le_trans (Nat.le_of_lt hP3) hS.size))) (fun hS => ?_)
  clear hK K
  have hr5 := HR3.out.drew.below hbc
  clear hbc
  refine wpAnyH_ready (rs := [9]) (by kernel_rfl) (by simp) (AllReadyH.cons rfl (fun K hK => ?_) AllReadyH.nil)
  go_simp
  refine (HDB.out _ hr5).mono ?_
  rintro e w6 ⟨rfl, hbc⟩
  refine hK.out _ _ (hS.trans (hbc.mono (Nat.le_trans (Nat.le_of_lt hP3) hS.size))) (fun hS => ?_)
  clear hK K
  have hr6 := hr5.below hbc
  clear hbc
  refine wpAnyH_takeL (i := 10) (v := ?_) rfl (by kernel_rfl) (by kernel_rfl) (by kernel_rfl) (fun _ _ _ h => h) (Or.inl ⟨by kernel_rfl, ?_⟩) hS ?_
  rotate_left
  · intro V hV
    go_simp
    (try with_reducible rfl)
  simp only [put_list, List.set_cons_succ, List.set_cons_zero]
  refine wpAnyH_takeL (i := 11) (v := ?_) rfl (by kernel_rfl) (by kernel_rfl) (by kernel_rfl) (fun _ _ _ h => h) (Or.inl ⟨by kernel_rfl, ?_⟩) hS ?_
  rotate_left
  · intro V hV
    go_simp
    (try with_reducible rfl)
  simp only [put_list, List.set_cons_succ, List.set_cons_zero]
  refine wpAnyH_ready (rs := [12]) (by kernel_rfl) (by simp) (AllReadyH.cons rfl (fun K hK => ?_) AllReadyH.nil)
  refine ite_wp (by kernel_rfl) ?_
  refine wp_store_midN 32 (.tmp 36) (.tmp 34) rfl rfl P (4 + 1) (cs (limb (el m 1))) rfl rfl (hr6.thereOne _) (info _) (one _) ?_
  have hr7 := hr6.putOne (el m 1)
  have hS9 := hS.trans (But.sets (cs (limb (el m 1))).toList (4 + 1) (But.refl P w6)).below
  clear hS
  generalize World.setCells w6 P (4 + 1) (cs (limb (el m 1))).toList = W7 at hr7 hS9 ⊢
  refine hK.out _ _ hS9 (fun hS => ?_)
  clear hK K hS9
  refine wpAnyH_done (by kernel_rfl) ?_ _
  (try simp only [put_none])
  clear HDB HBIT
  have HR7 := hideP hr7
  have HA7 := hideP ((hS.block _ hwP).trans HA3.out)
  have HB7 := hideP (HB3.out.trans (hS.mono (Nat.le_of_lt hwP)))
  have hP7 : P < W7.heap.size := HR7.out.lt
  have HDB : Hid (∀ w, RingAt w P m f (el m 1) 0 → Calls Tryz.prog 151 #[.pointer (some ⟨P, 0, none⟩), wv (el m 1), .int .i64 (4 : Int)] w fun e w' => e = .returned (wv (el m (2 ^ 4))) ∧ Below w.heap.size w w') := fun w hr => by
    have := double_any hr HMF.out (el m 1) 4 (el_lt HMF.out 1) (by decide)
    rw [show el m 1 * 2 ^ 4 % m = el m (2 ^ 4) by unfold el; rw [Nat.one_mul, Nat.mod_mul_mod, Nat.mul_comm]] at this
    exact this
  unfold wv at HDB
  clear hS hr7 hr5 hr6 HA3 HB3 HR3 hP3
  go_wp2_with fail
  refine wp_region_heldS (S := fun V => Below P W7 V) (by kernel_rfl) ((Below.refl _ _).drew) (fun hS => ?_)
  refine wpAnyH_takeL (i := 0) (v := ?_) rfl (by kernel_rfl) (by kernel_rfl) (by kernel_rfl) (fun _ _ _ h => h) (Or.inl ⟨by kernel_rfl, ?_⟩) hS ?_
  rotate_left
  · intro V hV
    go_simp
    (try with_reducible rfl)
  simp only [put_list, List.set_cons_succ, List.set_cons_zero]
  refine wpAnyH_takeL (i := 1) (v := ?_) rfl (by kernel_rfl) (by kernel_rfl) (by kernel_rfl) (fun _ _ _ h => h) (Or.inl ⟨by kernel_rfl, ?_⟩) hS ?_
  rotate_left
  · intro V hV
    go_simp
    (try with_reducible rfl)
  simp only [put_list, List.set_cons_succ, List.set_cons_zero]
  refine wpAnyH_takeL (i := 2) (v := ?_) rfl (by kernel_rfl) (by kernel_rfl) (by kernel_rfl) (fun _ _ _ h => h) (Or.inl ⟨by kernel_rfl, ?_⟩) hS ?_
  rotate_left
  · intro V hV
    go_simp
    (try with_reducible rfl)
  simp only [put_list, List.set_cons_succ, List.set_cons_zero]
  refine wpAnyH_takeL (i := 3) (v := ?_) rfl (by kernel_rfl) (by kernel_rfl) (by kernel_rfl) (fun _ _ _ h => h) (Or.inl ⟨by kernel_rfl, ?_⟩) hS ?_
  rotate_left
  · intro V hV
    go_simp
    (try with_reducible rfl)
  simp only [put_list, List.set_cons_succ, List.set_cons_zero]
  refine wpAnyH_takeL (i := 4) (v := ?_) rfl (by kernel_rfl) (by kernel_rfl) (by kernel_rfl) (fun _ _ _ h => h) (Or.inl ⟨by kernel_rfl, ?_⟩) hS ?_
  rotate_left
  · intro V hV
    go_simp
    (try with_reducible rfl)
  simp only [put_list, List.set_cons_succ, List.set_cons_zero]
  refine wpAnyH_takeL (i := 6) (v := .agg (cs (limb m))) rfl (by kernel_rfl) (by kernel_rfl) (by kernel_rfl) (fun _ _ _ h => h) (yieldsIf_load_mid (by kernel_rfl) 32 _ rfl (w.heap.size) (0) rfl (cs (limb m)).toList _ (fun V hV => rangeOf ((hV.block _ hwP).trans HA7.out)) under rfl (info _)) hS ?_
  simp only [put_list, List.set_cons_succ, List.set_cons_zero]
  refine wpAnyH_takeL (i := 7) (v := ?_) rfl (by kernel_rfl) (by kernel_rfl) (by kernel_rfl) (fun _ _ _ h => h) (Or.inl ⟨by kernel_rfl, ?_⟩) hS ?_
  rotate_left
  · intro V hV
    go_simp
    (try with_reducible rfl)
  simp only [put_list, List.set_cons_succ, List.set_cons_zero]
  refine wpAnyH_ready (rs := [5]) (by kernel_rfl) (by simp) (AllReadyH.cons rfl (fun K hK => ?_) AllReadyH.nil)
  refine ite_wp (by kernel_rfl) ?_
  refine wp_load_midD 32 (.tmp 41) 42 rfl rfl (P) (4 + 1) (cs (limb (el m 1))) rfl _ (HR7.out.drew.one) under rfl (info _) ?_
  refine hK.out _ _ hS (fun hS => ?_)
  clear hK K
  simp only [List.set_cons_succ, List.set_cons_zero]
  refine wpAnyH_ready (rs := [8]) (by kernel_rfl) (by simp) (AllReadyH.cons rfl (fun K hK => ?_) AllReadyH.nil)
  go_simp
  refine (HDB.out _ HR7.out.drew).mono ?_
  rintro e w8 ⟨rfl, hbc⟩
  refine hK.out _ _ (hS.trans (hbc.mono (Nat.le_trans (Nat.le_of_lt hP7) hS.size))) (fun hS => ?_)
  clear hK K
  have hr8 := HR7.out.drew.below hbc
  clear hbc
  refine wpAnyH_takeL (i := 9) (v := ?_) rfl (by kernel_rfl) (by kernel_rfl) (by kernel_rfl) (fun _ _ _ h => h) (Or.inl ⟨by kernel_rfl, ?_⟩) hS ?_
  rotate_left
  · intro V hV
    go_simp
    (try with_reducible rfl)
  simp only [put_list, List.set_cons_succ, List.set_cons_zero]
  refine wpAnyH_takeL (i := 10) (v := ?_) rfl (by kernel_rfl) (by kernel_rfl) (by kernel_rfl) (fun _ _ _ h => h) (Or.inl ⟨by kernel_rfl, ?_⟩) hS ?_
  rotate_left
  · intro V hV
    go_simp
    (try with_reducible rfl)
  simp only [put_list, List.set_cons_succ, List.set_cons_zero]
  refine wpAnyH_ready (rs := [11]) (by kernel_rfl) (by simp) (AllReadyH.cons rfl (fun K hK => ?_) AllReadyH.nil)
  refine ite_wp (by kernel_rfl) ?_
  refine wp_store_midN 32 (.tmp 47) (.tmp 45) rfl rfl P (2 * 4 + 1) (cs (limb (el m (2 ^ 4)))) rfl rfl (hr8.thereRadix _) (info _) (one _) ?_
  have hr9 := hr8.putRadix (el m (2 ^ 4))
  have hS9 := hS.trans (But.sets (cs (limb (el m (2 ^ 4)))).toList (2 * 4 + 1) (But.refl P w8)).below
  clear hS
  generalize World.setCells w8 P (2 * 4 + 1) (cs (limb (el m (2 ^ 4)))).toList = W9 at hr9 hS9 ⊢
  refine hK.out _ _ hS9 (fun hS => ?_)
  clear hK K hS9
  refine wpAnyH_done (by kernel_rfl) ?_ _
  (try simp only [put_none])
  have HR9 : Hid (RingAt W9 P m f (el m 1) (el m ((2 ^ 4) ^ (2 ^ 0)))) := hr9
  have HB9 := hideP (HB7.out.trans (hS.mono (Nat.le_of_lt hwP)))
  clear hS hr9 hr8 HDB HA7 HB7 HR7 hP7 ew1 ew2 ew3 ew4
  go_wp2_with fail
  rename_i Q' K hK
  have HK := hideP hK
  clear hK
  go_loopw [48] (fun i wr => ∃ k : Nat, k ≤ 6 ∧ i = .int .i64 k ∧ RingAt wr P m f (el m 1) (el m ((2 ^ 4) ^ (2 ^ k))) ∧ Below w.heap.size w wr) (fun i _ => 6 - (intOf i).toNat)
  case atStart => exact ⟨0, Nat.zero_le _, rfl, HR9.out, HB9.out⟩
  case round =>
    obtain ⟨k, hk, rfl, hr, hbw⟩ := hrel
    have HR := hideP hr
    have HBW := hideP hbw
    by_cases hlt : k < 6
    · have hlt' : (k : Int) < 6 := by omega
      have e4 : IntKind.i64.wrap ((k : Int) + 1) = (k : Int) + 1 := by rw [IntKind.wrap_i64]; omega
      have HKS : Hid (k + 1 ≤ 6) := hlt
      have hP : P < wr.heap.size := hr.lt
      have HMU := hideP (mult_el hr.drew HMF.out ((2 ^ 4) ^ (2 ^ k)) ((2 ^ 4) ^ (2 ^ k)))
      rw [← Nat.pow_add, ← Nat.two_mul, Nat.mul_comm 2, ← Nat.pow_succ] at HMU
      unfold wv at HMU
      clear hr hbw hlt hk
      generalize el m ((2 ^ 4) ^ (2 ^ k)) = Ek at *
      generalize hE1 : el m ((2 ^ 4) ^ (2 ^ (k + 1))) = Ek1 at HMU
      go_wp2_with fail
      refine wp_region_heldS (S := fun V => Below P wr V) (by kernel_rfl) ((Below.refl _ _).drew) (fun hS => ?_)
      refine wpAnyH_takeL (i := 0) (v := ?_) rfl (by kernel_rfl) (by kernel_rfl) (by kernel_rfl) (fun _ _ _ h => h) (Or.inl ⟨by kernel_rfl, ?_⟩) hS ?_
      rotate_left
      · intro V hV
        go_simp
        (try with_reducible rfl)
      simp only [put_list, List.set_cons_succ, List.set_cons_zero]
      refine wpAnyH_takeL (i := 1) (v := ?_) rfl (by kernel_rfl) (by kernel_rfl) (by kernel_rfl) (fun _ _ _ h => h) (Or.inl ⟨by kernel_rfl, ?_⟩) hS ?_
      rotate_left
      · intro V hV
        go_simp
        (try with_reducible rfl)
      simp only [put_list, List.set_cons_succ, List.set_cons_zero]
      refine wpAnyH_takeL (i := 2) (v := ?_) rfl (by kernel_rfl) (by kernel_rfl) (by kernel_rfl) (fun _ _ _ h => h) (Or.inl ⟨by kernel_rfl, ?_⟩) hS ?_
      rotate_left
      · intro V hV
        go_simp
        (try with_reducible rfl)
      simp only [put_list, List.set_cons_succ, List.set_cons_zero]
      refine wpAnyH_takeL (i := 3) (v := ?_) rfl (by kernel_rfl) (by kernel_rfl) (by kernel_rfl) (fun _ _ _ h => h) (Or.inl ⟨by kernel_rfl, ?_⟩) hS ?_
      rotate_left
      · intro V hV
        go_simp
        (try with_reducible rfl)
      simp only [put_list, List.set_cons_succ, List.set_cons_zero]
      refine wpAnyH_takeL (i := 4) (v := ?_) rfl (by kernel_rfl) (by kernel_rfl) (by kernel_rfl) (fun _ _ _ h => h) (Or.inl ⟨by kernel_rfl, ?_⟩) hS ?_
      rotate_left
      · intro V hV
        go_simp
        (try with_reducible rfl)
      simp only [put_list, List.set_cons_succ, List.set_cons_zero]
      refine wpAnyH_takeL (i := 6) (v := ?_) rfl (by kernel_rfl) (by kernel_rfl) (by kernel_rfl) (fun _ _ _ h => h) (Or.inl ⟨by kernel_rfl, ?_⟩) hS ?_
      rotate_left
      · intro V hV
        go_simp
        (try with_reducible rfl)
      simp only [put_list, List.set_cons_succ, List.set_cons_zero]
      refine wpAnyH_takeL (i := 7) (v := ?_) rfl (by kernel_rfl) (by kernel_rfl) (by kernel_rfl) (fun _ _ _ h => h) (Or.inl ⟨by kernel_rfl, ?_⟩) hS ?_
      rotate_left
      · intro V hV
        go_simp
        (try with_reducible rfl)
      simp only [put_list, List.set_cons_succ, List.set_cons_zero]
      refine wpAnyH_takeL (i := 8) (v := ?_) rfl (by kernel_rfl) (by kernel_rfl) (by kernel_rfl) (fun _ _ _ h => h) (Or.inl ⟨by kernel_rfl, ?_⟩) hS ?_
      rotate_left
      · intro V hV
        go_simp
        (try with_reducible rfl)
      simp only [put_list, List.set_cons_succ, List.set_cons_zero]
      refine wpAnyH_ready (rs := [5, 9]) (by kernel_rfl) (by simp) (AllReadyH.cons rfl (fun K hK => ?_) (AllReadyH.cons rfl (fun K hK => ?_) AllReadyH.nil))
      · refine ite_wp (by kernel_rfl) ?_
        refine wp_load_midD 32 (.tmp 54) 55 rfl rfl P (2 * 4 + 1) (cs (limb Ek)) rfl _ (HR.out.drew.radix) under rfl (info _) ?_
        refine hK.out _ _ hS (fun hS => ?_)
        clear hK K
        simp only [List.set_cons_succ, List.set_cons_zero]
        refine wpAnyH_ready (rs := [9]) (by kernel_rfl) (by simp) (AllReadyH.cons rfl (fun K hK => ?_) AllReadyH.nil)
        refine ite_wp (by kernel_rfl) ?_
        refine wp_load_midD 32 (.tmp 58) 59 rfl rfl (P) (2 * 4 + 1) (cs (limb Ek)) rfl _ (HR.out.drew.radix) under rfl (info _) ?_
        refine hK.out _ _ hS (fun hS => ?_)
        clear hK K
        simp only [List.set_cons_succ, List.set_cons_zero]
        refine wpAnyH_ready (rs := [10]) (by kernel_rfl) (by simp) (AllReadyH.cons rfl (fun K hK => ?_) AllReadyH.nil)
        go_simp
        refine (HMU.out).mono ?_
        rintro e w8 ⟨rfl, hbc⟩
        refine hK.out _ _ (hS.trans (hbc.mono (Nat.le_trans (Nat.le_of_lt hP) hS.size))) (fun hS => ?_)
        clear hK K
        have hr8 := HR.out.drew.below hbc
        clear hbc
        refine wpAnyH_takeL (i := 11) (v := ?_) rfl (by kernel_rfl) (by kernel_rfl) (by kernel_rfl) (fun _ _ _ h => h) (Or.inl ⟨by kernel_rfl, ?_⟩) hS ?_
        rotate_left
        · intro V hV
          go_simp
          (try with_reducible rfl)
        simp only [put_list, List.set_cons_succ, List.set_cons_zero]
        refine wpAnyH_takeL (i := 12) (v := ?_) rfl (by kernel_rfl) (by kernel_rfl) (by kernel_rfl) (fun _ _ _ h => h) (Or.inl ⟨by kernel_rfl, ?_⟩) hS ?_
        rotate_left
        · intro V hV
          go_simp
          (try with_reducible rfl)
        simp only [put_list, List.set_cons_succ, List.set_cons_zero]
        refine wpAnyH_ready (rs := [13]) (by kernel_rfl) (by simp) (AllReadyH.cons rfl (fun K hK => ?_) AllReadyH.nil)
        refine ite_wp (by kernel_rfl) ?_
        refine wp_store_midN 32 (.tmp 62) (.tmp 60) rfl rfl P (2 * 4 + 1) (cs (limb Ek1)) rfl rfl (hr8.thereRadix _) (info _) (one _) ?_
        have hr9 := hr8.putRadix Ek1
        have hS9 := hS.trans (But.sets (cs (limb Ek1)).toList (2 * 4 + 1) (But.refl P w8)).below
        clear hS
        generalize World.setCells w8 P (2 * 4 + 1) (cs (limb Ek1)).toList = W9 at hr9 hS9 ⊢
        refine hK.out _ _ hS9 (fun hS => ?_)
        clear hK K hS9
        refine wpAnyH_done (by kernel_rfl) ?_ _
        (try simp only [put_none])
        have HR9 : Hid (RingAt W9 P m f (el m 1) Ek1) := hr9
        have HB9 := hideP (HBW.out.trans (hS.mono (Nat.le_of_lt hwP)))
        clear hS hr9 hr8
        go_wp2_with fail
        refine ⟨⟨_, _, _, _, _, _, _, _, _, _, _, _, _, _, _, _, ⟨k + 1, HKS.out, ?h1, ?h2, HB9.out⟩, rfl⟩, ?h3⟩
        case h1 => go_num
        case h2 => rw [hE1]; exact HR9.out
        case h3 => have := HKS.out; simp [intOf]; omega
      · refine ite_wp (by kernel_rfl) ?_
        refine wp_load_midD 32 (.tmp 58) 59 rfl rfl P (2 * 4 + 1) (cs (limb Ek)) rfl _ (HR.out.drew.radix) under rfl (info _) ?_
        refine hK.out _ _ hS (fun hS => ?_)
        clear hK K
        simp only [List.set_cons_succ, List.set_cons_zero]
        refine wpAnyH_ready (rs := [5]) (by kernel_rfl) (by simp) (AllReadyH.cons rfl (fun K hK => ?_) AllReadyH.nil)
        refine ite_wp (by kernel_rfl) ?_
        refine wp_load_midD 32 (.tmp 54) 55 rfl rfl (P) (2 * 4 + 1) (cs (limb Ek)) rfl _ (HR.out.drew.radix) under rfl (info _) ?_
        refine hK.out _ _ hS (fun hS => ?_)
        clear hK K
        simp only [List.set_cons_succ, List.set_cons_zero]
        refine wpAnyH_ready (rs := [10]) (by kernel_rfl) (by simp) (AllReadyH.cons rfl (fun K hK => ?_) AllReadyH.nil)
        go_simp
        refine (HMU.out).mono ?_
        rintro e w8 ⟨rfl, hbc⟩
        refine hK.out _ _ (hS.trans (hbc.mono (Nat.le_trans (Nat.le_of_lt hP) hS.size))) (fun hS => ?_)
        clear hK K
        have hr8 := HR.out.drew.below hbc
        clear hbc
        refine wpAnyH_takeL (i := 11) (v := ?_) rfl (by kernel_rfl) (by kernel_rfl) (by kernel_rfl) (fun _ _ _ h => h) (Or.inl ⟨by kernel_rfl, ?_⟩) hS ?_
        rotate_left
        · intro V hV
          go_simp
          (try with_reducible rfl)
        simp only [put_list, List.set_cons_succ, List.set_cons_zero]
        refine wpAnyH_takeL (i := 12) (v := ?_) rfl (by kernel_rfl) (by kernel_rfl) (by kernel_rfl) (fun _ _ _ h => h) (Or.inl ⟨by kernel_rfl, ?_⟩) hS ?_
        rotate_left
        · intro V hV
          go_simp
          (try with_reducible rfl)
        simp only [put_list, List.set_cons_succ, List.set_cons_zero]
        refine wpAnyH_ready (rs := [13]) (by kernel_rfl) (by simp) (AllReadyH.cons rfl (fun K hK => ?_) AllReadyH.nil)
        refine ite_wp (by kernel_rfl) ?_
        refine wp_store_midN 32 (.tmp 62) (.tmp 60) rfl rfl P (2 * 4 + 1) (cs (limb Ek1)) rfl rfl (hr8.thereRadix _) (info _) (one _) ?_
        have hr9 := hr8.putRadix Ek1
        have hS9 := hS.trans (But.sets (cs (limb Ek1)).toList (2 * 4 + 1) (But.refl P w8)).below
        clear hS
        generalize World.setCells w8 P (2 * 4 + 1) (cs (limb Ek1)).toList = W9 at hr9 hS9 ⊢
        refine hK.out _ _ hS9 (fun hS => ?_)
        clear hK K hS9
        refine wpAnyH_done (by kernel_rfl) ?_ _
        (try simp only [put_none])
        have HR9 : Hid (RingAt W9 P m f (el m 1) Ek1) := hr9
        have HB9 := hideP (HBW.out.trans (hS.mono (Nat.le_of_lt hwP)))
        clear hS hr9 hr8
        go_wp2_with fail
        refine ⟨⟨_, _, _, _, _, _, _, _, _, _, _, _, _, _, _, _, ⟨k + 1, HKS.out, ?h1, ?h2, HB9.out⟩, rfl⟩, ?h3⟩
        case h1 => go_num
        case h2 => rw [hE1]; exact HR9.out
        case h3 => have := HKS.out; simp [intOf]; omega
    · have hkn : k = 6 := by omega
      have hnl : ¬ (k : Int) < 6 := by omega
      rw [hkn, show (2 ^ 4) ^ (2 ^ 6) = R by decide] at hr
      have HR6 := hideP hr
      clear hr hbw hlt hk hkn HR
      go_wp2_with fail
      refine HK.out _ _ ?_
      go_wp2
      go_ret2
      exact ⟨P, rfl, Nat.le_of_lt hwP, ⟨f, HMF.out, HR6.out⟩, HBW.out⟩

end Go.Proofs.YtcbdbnfgnonacaaGreat.W4
