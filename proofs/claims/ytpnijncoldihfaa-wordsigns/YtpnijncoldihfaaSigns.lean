/-
  Signs extended twice, and the signed order: the walk of the law.
-/
import Derived.Test.YtpnijncoldihfaaSExt
import Derived.Test.YtpnijncoldihfaaAwake
import Derived.Test.YtpnijncoldihfaaEqW
namespace Go.Proofs.Ytpnijncoldihfaa
open Go.RowKit Go.Shelf

theorem cmpI_neg (a b : Nat) : cmpI a b = - cmpI b a := by
  rcases Nat.lt_trichotomy a b with h | h | h
  · rw [cmpI_lt h, cmpI_gt h]
  · subst h; rw [cmpI_eq]; rfl
  · rw [cmpI_gt h, cmpI_lt h]; rfl

theorem cmpI_small (a b : Nat) : -1 ≤ cmpI a b ∧ cmpI a b ≤ 1 := by
  unfold cmpI
  split
  · omega
  · split <;> omega

theorem xor_high (X : Nat) : wv (X % M256 ^^^ S255 % M256) = wv (X + S255) := by
  obtain ⟨x0, x1, x2, x3, hx0, hx1, hx2, hx3, eX, hX⟩ := wv_limbs X
  have hS : S255 % M256 = num 0 0 0 9223372036854775808 := by decide
  have hn := num_bits (fun a b => a ^^^ b) Bool.xor rfl (fun x y i => Nat.testBit_xor x y i) hx0 hx1 hx2 (y0 := 0) (y1 := 0) (y2 := 0) (by decide) (by decide) (by decide) (x3 := x3) (y3 := 9223372036854775808)
  simp only [Nat.xor_zero] at hn
  have h3 : x3 ^^^ 9223372036854775808 = (x3 + 9223372036854775808) % 18446744073709551616 := by
    have a := sign_limb x3 hx3
    have b := bits_xor_u64_nat x3 9223372036854775808 hx3 (by omega)
    have e : ((x3 ^^^ 9223372036854775808 : Nat) : Int) = (((x3 + 9223372036854775808) % 18446744073709551616 : Nat) : Int) := b.symm.trans a
    exact Int.ofNat.inj e
  apply wv_congr
  rw [← Nat.mod_add_mod X M256 S255, eX, hS, hn, h3]
  have h4 := num_lt hx0 hx1 hx2 (Nat.mod_lt (x3 + 9223372036854775808) (by decide : 0 < 18446744073709551616))
  have hd := Nat.mod_add_div (x3 + 9223372036854775808) 18446744073709551616
  generalize (x3 + 9223372036854775808) % 18446744073709551616 = r at hd h4 ⊢
  generalize (x3 + 9223372036854775808) / 18446744073709551616 = q at hd
  have e : num x0 x1 x2 x3 + S255 = num x0 x1 x2 r + M256 * q := by
    unfold num S255 M256
    omega
  rw [e, Nat.add_mul_mod_self_left]

set_option maxHeartbeats 8000000 in
set_option maxRecDepth 100000 in
theorem signs_calls (X Y k : Nat) (hk : k < 18446744073709551616) (w : World) : Calls Try.prog 15 #[wv X, wv Y, .int .u64 k] w fun e w' => e = .returned (.bool true) ∧ Below w.heap.size w w' := by
  obtain ⟨x0, x1, x2, x3, hx⟩ := wv_form X
  obtain ⟨y0, y1, y2, y3, hy⟩ := wv_form Y
  obtain ⟨s0, s1, s2, s3, hs⟩ := wv_form (signN k X)
  obtain ⟨a0, a1, a2, a3, ha⟩ := wv_form (X + S255)
  obtain ⟨b0, b1, b2, b3, hb⟩ := wv_form (Y + S255)
  have hkw : wv k = .agg #[.int .u64 k, .int .u64 0, .int .u64 0, .int .u64 0] := (wv_eq (s1 := 0) (s2 := 0) (s3 := 0) (k := 0) hk (by omega) (by omega) (by omega) (by omega)).symm
  have hhi : wv S255 = .agg #[.int .u64 0, .int .u64 0, .int .u64 0, .int .u64 9223372036854775808] := by kernel_rfl
  have k1 := fun W => signExtend_any k X W
  rw [small_mod hk] at k1
  simp only [hkw, hx, hs] at k1
  have Ck1 := hideP k1
  clear k1
  have k2 := fun W => signExtend_any k (signN k X) W
  rw [small_mod hk, signN_twice] at k2
  simp only [hkw, hs] at k2
  have Ck2 := hideP k2
  clear k2
  have k3 := fun W => sCmp_any X Y W
  simp only [hx, hy] at k3
  have Ck3 := hideP k3
  clear k3
  have k4 := fun W => xor_any X S255 W
  rw [xor_high] at k4
  simp only [hx, hhi, ha] at k4
  have Ck4 := hideP k4
  clear k4
  have k5 := fun W => xor_any Y S255 W
  rw [xor_high] at k5
  simp only [hy, hhi, hb] at k5
  have Ck5 := hideP k5
  clear k5
  have k6 := fun W => cmp_any (X + S255) (Y + S255) W
  simp only [ha, hb] at k6
  have Ck6 := hideP k6
  clear k6
  have k7 := fun W => sCmp_any Y X W
  simp only [hx, hy] at k7
  have Ck7 := hideP k7
  clear k7
  have hng := cmpI_neg ((X + S255) % M256) ((Y + S255) % M256)
  have hs1 := cmpI_small ((Y + S255) % M256) ((X + S255) % M256)
  generalize cmpI ((X + S255) % M256) ((Y + S255) % M256) = r at Ck3 Ck6 hng
  generalize cmpI ((Y + S255) % M256) ((X + S255) % M256) = q at Ck7 hng hs1
  have hq : IntKind.i64.wrap (-q) = r := by rw [IntKind.wrap_i64]; omega
  have hq2 : r = -q := hng
  subst hq2
  clear hng
  have CAW := hideP (fun W => awake_any W)
  have eqw := eq_words
  simp only [hx, hy]
  clear hx hy hs ha hb hkw hhi hk
  go_enter Try.func15, Try.ntmps15
  go_wp2_with fail
  refine (CAW.out _).mono ?_
  rintro e W0 ⟨rfl, hb⟩
  have HBx : Hid (W0.heap[w.heap.size]? = some (.cells #[.int .u64 x0, .int .u64 x1, .int .u64 x2, .int .u64 x3] 24 (0, 0))) := (kept4 hb ((heap_old _ _ (by simp <;> omega)).trans (heap_new _ _))).1
  have HBy : Hid (W0.heap[w.heap.size + 1]? = some (.cells #[.int .u64 y0, .int .u64 y1, .int .u64 y2, .int .u64 y3] 24 (0, 0))) := (kept4 hb (heap_new1 _ _ _)).1
  have HBW : Hid (Below w.heap.size w W0) := (((Below.refl _ w).alloc (Nat.le_refl _) _).alloc (by simp <;> omega) _).trans (hb.mono (by simp <;> omega))
  clear hb
  obtain ⟨cx0, cx1, cx2, cx3⟩ := cells4 HBx.out
  have hlx := (Array.getElem?_eq_some_iff.1 HBx.out).1
  go_wp2_with fail
  refine (Ck1.out _).mono ?_
  rintro e V1 ⟨rfl, hb⟩
  replace HBx : Hid (V1.heap[w.heap.size]? = some (.cells #[.int .u64 x0, .int .u64 x1, .int .u64 x2, .int .u64 x3] 24 (0, 0))) := (hb.block _ (Array.getElem?_eq_some_iff.1 HBx.out).1).trans HBx.out
  replace HBy : Hid (V1.heap[w.heap.size + 1]? = some (.cells #[.int .u64 y0, .int .u64 y1, .int .u64 y2, .int .u64 y3] 24 (0, 0))) := (hb.block _ (Array.getElem?_eq_some_iff.1 HBy.out).1).trans HBy.out
  replace HBW : Hid (Below w.heap.size w V1) := HBW.out.trans (hb.mono HBW.out.size)
  clear hb
  clear cx0 cx1 cx2 cx3 hlx
  go_wp2_with fail
  refine at_world (fun V2 hU => ?_)
  have HBs : Hid (V2.heap[V1.heap.size]? = some (.cells #[.int .u64 s0, .int .u64 s1, .int .u64 s2, .int .u64 s3] 24 (0, 0))) := by
    show _ = _
    rw [hU, heap_old _ _ (by simp)]
    exact heap_new _ _
  have HBg : Hid (V2.heap[V1.heap.size + 1]? = some (.cells #[.int .u64 0, .int .u64 0, .int .u64 0, .int .u64 9223372036854775808] 24 (0, 0))) := by
    show _ = _
    rw [hU]
    exact heap_new1 _ _ _
  have hb : Below V1.heap.size V1 V2 := by
    rw [hU]
    exact ((Below.refl _ _).alloc (Nat.le_refl _) _).alloc (by simp <;> omega) _
  clear hU
  replace HBx : Hid (V2.heap[w.heap.size]? = some (.cells #[.int .u64 x0, .int .u64 x1, .int .u64 x2, .int .u64 x3] 24 (0, 0))) := (hb.block _ (Array.getElem?_eq_some_iff.1 HBx.out).1).trans HBx.out
  replace HBy : Hid (V2.heap[w.heap.size + 1]? = some (.cells #[.int .u64 y0, .int .u64 y1, .int .u64 y2, .int .u64 y3] 24 (0, 0))) := (hb.block _ (Array.getElem?_eq_some_iff.1 HBy.out).1).trans HBy.out
  replace HBW : Hid (Below w.heap.size w V2) := HBW.out.trans (hb.mono HBW.out.size)
  clear hb
  obtain ⟨cx0, cx1, cx2, cx3⟩ := cells4 HBx.out
  have hlx := (Array.getElem?_eq_some_iff.1 HBx.out).1
  obtain ⟨cy0, cy1, cy2, cy3⟩ := cells4 HBy.out
  have hly := (Array.getElem?_eq_some_iff.1 HBy.out).1
  obtain ⟨cs0, cs1, cs2, cs3⟩ := cells4 HBs.out
  have hls := (Array.getElem?_eq_some_iff.1 HBs.out).1
  obtain ⟨cg0, cg1, cg2, cg3⟩ := cells4 HBg.out
  have hlg := (Array.getElem?_eq_some_iff.1 HBg.out).1
  refine wp_region_heldS (S := fun V => Below V2.heap.size V2 V) (by kernel_rfl) (Below.refl _ _).drew (fun hS => ?_)
  refine wpAnyH_takeL (i := 0) (v := ?_) rfl (by kernel_rfl) (by kernel_rfl) (by kernel_rfl) (fun _ _ _ h => h) (Or.inl ⟨by kernel_rfl, ?_⟩) hS ?_
  rotate_left
  · intro V hV
    go_simp
    (try with_reducible rfl)
  simp only [put_list, List.set_cons_succ, List.set_cons_zero]
  refine wpAnyH_takeL (i := 1) (v := ?_) rfl (by kernel_rfl) (by kernel_rfl) (by kernel_rfl) (fun _ _ _ h => h) (Or.inl ⟨by kernel_rfl, ?_⟩) hS ?_
  rotate_left
  · intro V hV
    go_simp
    (try with_reducible rfl)
  simp only [put_list, List.set_cons_succ, List.set_cons_zero]
  refine wpAnyH_takeL (i := 2) (v := ?_) rfl (by kernel_rfl) (by kernel_rfl) (by kernel_rfl) (fun _ _ _ h => h) (Or.inl ⟨by kernel_rfl, ?_⟩) hS ?_
  rotate_left
  · intro V hV
    have k0 := (hV.cell (p := ⟨V1.heap.size, 0, none⟩) hls).trans cs0
    have k1 := (hV.cell (p := ⟨V1.heap.size, 1, none⟩) hls).trans cs1
    have k2 := (hV.cell (p := ⟨V1.heap.size, 2, none⟩) hls).trans cs2
    have k3 := (hV.cell (p := ⟨V1.heap.size, 3, none⟩) hls).trans cs3
    go_simp
    (try with_reducible rfl)
  simp only [put_list, List.set_cons_succ, List.set_cons_zero]
  refine wpAnyH_takeL (i := 4) (v := ?_) rfl (by kernel_rfl) (by kernel_rfl) (by kernel_rfl) (fun _ _ _ h => h) (Or.inl ⟨by kernel_rfl, ?_⟩) hS ?_
  rotate_left
  · intro V hV
    have k0 := (hV.cell (p := ⟨V1.heap.size, 0, none⟩) hls).trans cs0
    have k1 := (hV.cell (p := ⟨V1.heap.size, 1, none⟩) hls).trans cs1
    have k2 := (hV.cell (p := ⟨V1.heap.size, 2, none⟩) hls).trans cs2
    have k3 := (hV.cell (p := ⟨V1.heap.size, 3, none⟩) hls).trans cs3
    go_simp
    (try with_reducible rfl)
  simp only [put_list, List.set_cons_succ, List.set_cons_zero]
  refine wpAnyH_ready (rs := [3]) (by kernel_rfl) (by simp) (AllReadyH.cons rfl (fun K hK => ?_) AllReadyH.nil)
  go_simp
  refine (Ck2.out _).mono ?_
  rintro e U1 ⟨rfl, hbc⟩
  refine hK.out _ _ (hS.trans (hbc.mono hS.size)) (fun hS => ?_)
  clear hK K hbc
  refine wpAnyH_takeL (i := 5) (v := ?_) rfl (by kernel_rfl) (by kernel_rfl) (by kernel_rfl) (fun _ _ _ h => h) (Or.inl ⟨by kernel_rfl, ?_⟩) hS ?_
  rotate_left
  · intro V hV
    go_simp
    (try with_reducible rfl)
  simp only [put_list, List.set_cons_succ, List.set_cons_zero]
  refine wpAnyH_takeL (i := 6) (v := ?_) rfl (by kernel_rfl) (by kernel_rfl) (by kernel_rfl) (fun _ _ _ h => h) (Or.inl ⟨by kernel_rfl, ?_⟩) hS ?_
  rotate_left
  · intro V hV
    go_simp
    (try with_reducible rfl)
  simp only [put_list, List.set_cons_succ, List.set_cons_zero]
  refine wpAnyH_takeL (i := 7) (v := ?_) rfl (by kernel_rfl) (by kernel_rfl) (by kernel_rfl) (fun _ _ _ h => h) (Or.inl ⟨by kernel_rfl, ?_⟩) hS ?_
  rotate_left
  · intro V hV
    have k0 := (hV.cell (p := ⟨w.heap.size, 0, none⟩) hlx).trans cx0
    have k1 := (hV.cell (p := ⟨w.heap.size, 1, none⟩) hlx).trans cx1
    have k2 := (hV.cell (p := ⟨w.heap.size, 2, none⟩) hlx).trans cx2
    have k3 := (hV.cell (p := ⟨w.heap.size, 3, none⟩) hlx).trans cx3
    go_simp
    (try with_reducible rfl)
  simp only [put_list, List.set_cons_succ, List.set_cons_zero]
  refine wpAnyH_takeL (i := 8) (v := ?_) rfl (by kernel_rfl) (by kernel_rfl) (by kernel_rfl) (fun _ _ _ h => h) (Or.inl ⟨by kernel_rfl, ?_⟩) hS ?_
  rotate_left
  · intro V hV
    have k0 := (hV.cell (p := ⟨w.heap.size + 1, 0, none⟩) hly).trans cy0
    have k1 := (hV.cell (p := ⟨w.heap.size + 1, 1, none⟩) hly).trans cy1
    have k2 := (hV.cell (p := ⟨w.heap.size + 1, 2, none⟩) hly).trans cy2
    have k3 := (hV.cell (p := ⟨w.heap.size + 1, 3, none⟩) hly).trans cy3
    go_simp
    (try with_reducible rfl)
  simp only [put_list, List.set_cons_succ, List.set_cons_zero]
  refine wpAnyH_takeL (i := 10) (v := ?_) rfl (by kernel_rfl) (by kernel_rfl) (by kernel_rfl) (fun _ _ _ h => h) (Or.inl ⟨by kernel_rfl, ?_⟩) hS ?_
  rotate_left
  · intro V hV
    have k0 := (hV.cell (p := ⟨w.heap.size, 0, none⟩) hlx).trans cx0
    have k1 := (hV.cell (p := ⟨w.heap.size, 1, none⟩) hlx).trans cx1
    have k2 := (hV.cell (p := ⟨w.heap.size, 2, none⟩) hlx).trans cx2
    have k3 := (hV.cell (p := ⟨w.heap.size, 3, none⟩) hlx).trans cx3
    go_simp
    (try with_reducible rfl)
  simp only [put_list, List.set_cons_succ, List.set_cons_zero]
  refine wpAnyH_takeL (i := 11) (v := ?_) rfl (by kernel_rfl) (by kernel_rfl) (by kernel_rfl) (fun _ _ _ h => h) (Or.inl ⟨by kernel_rfl, ?_⟩) hS ?_
  rotate_left
  · intro V hV
    have k0 := (hV.cell (p := ⟨V1.heap.size + 1, 0, none⟩) hlg).trans cg0
    have k1 := (hV.cell (p := ⟨V1.heap.size + 1, 1, none⟩) hlg).trans cg1
    have k2 := (hV.cell (p := ⟨V1.heap.size + 1, 2, none⟩) hlg).trans cg2
    have k3 := (hV.cell (p := ⟨V1.heap.size + 1, 3, none⟩) hlg).trans cg3
    go_simp
    (try with_reducible rfl)
  simp only [put_list, List.set_cons_succ, List.set_cons_zero]
  refine wpAnyH_takeL (i := 13) (v := ?_) rfl (by kernel_rfl) (by kernel_rfl) (by kernel_rfl) (fun _ _ _ h => h) (Or.inl ⟨by kernel_rfl, ?_⟩) hS ?_
  rotate_left
  · intro V hV
    have k0 := (hV.cell (p := ⟨w.heap.size + 1, 0, none⟩) hly).trans cy0
    have k1 := (hV.cell (p := ⟨w.heap.size + 1, 1, none⟩) hly).trans cy1
    have k2 := (hV.cell (p := ⟨w.heap.size + 1, 2, none⟩) hly).trans cy2
    have k3 := (hV.cell (p := ⟨w.heap.size + 1, 3, none⟩) hly).trans cy3
    go_simp
    (try with_reducible rfl)
  simp only [put_list, List.set_cons_succ, List.set_cons_zero]
  refine wpAnyH_takeL (i := 14) (v := ?_) rfl (by kernel_rfl) (by kernel_rfl) (by kernel_rfl) (fun _ _ _ h => h) (Or.inl ⟨by kernel_rfl, ?_⟩) hS ?_
  rotate_left
  · intro V hV
    have k0 := (hV.cell (p := ⟨V1.heap.size + 1, 0, none⟩) hlg).trans cg0
    have k1 := (hV.cell (p := ⟨V1.heap.size + 1, 1, none⟩) hlg).trans cg1
    have k2 := (hV.cell (p := ⟨V1.heap.size + 1, 2, none⟩) hlg).trans cg2
    have k3 := (hV.cell (p := ⟨V1.heap.size + 1, 3, none⟩) hlg).trans cg3
    go_simp
    (try with_reducible rfl)
  simp only [put_list, List.set_cons_succ, List.set_cons_zero]
  refine wpAnyH_ready (rs := [9]) (by kernel_rfl) (by simp) (AllReadyH.cons rfl (fun K hK => ?_) AllReadyH.nil)
  go_simp
  refine (Ck3.out _).mono ?_
  rintro e U2 ⟨rfl, hbc⟩
  refine hK.out _ _ (hS.trans (hbc.mono hS.size)) (fun hS => ?_)
  clear hK K hbc
  refine wpAnyH_ready (rs := [12]) (by kernel_rfl) (by simp) (AllReadyH.cons rfl (fun K hK => ?_) AllReadyH.nil)
  go_simp
  refine (Ck4.out _).mono ?_
  rintro e U3 ⟨rfl, hbc⟩
  refine hK.out _ _ (hS.trans (hbc.mono hS.size)) (fun hS => ?_)
  clear hK K hbc
  refine wpAnyH_ready (rs := [15]) (by kernel_rfl) (by simp) (AllReadyH.cons rfl (fun K hK => ?_) AllReadyH.nil)
  go_simp
  refine (Ck5.out _).mono ?_
  rintro e U4 ⟨rfl, hbc⟩
  refine hK.out _ _ (hS.trans (hbc.mono hS.size)) (fun hS => ?_)
  clear hK K hbc
  refine wpAnyH_ready (rs := [16]) (by kernel_rfl) (by simp) (AllReadyH.cons rfl (fun K hK => ?_) AllReadyH.nil)
  go_simp
  refine (Ck6.out _).mono ?_
  rintro e U5 ⟨rfl, hbc⟩
  refine hK.out _ _ (hS.trans (hbc.mono hS.size)) (fun hS => ?_)
  clear hK K hbc
  refine wpAnyH_takeL (i := 17) (v := ?_) rfl (by kernel_rfl) (by kernel_rfl) (by kernel_rfl) (fun _ _ _ h => h) (Or.inl ⟨by kernel_rfl, ?_⟩) hS ?_
  rotate_left
  · intro V hV
    go_simp
    (try with_reducible rfl)
  simp only [put_list, List.set_cons_succ, List.set_cons_zero]
  refine wpAnyH_takeL (i := 18) (v := ?_) rfl (by kernel_rfl) (by kernel_rfl) (by kernel_rfl) (fun _ _ _ h => h) (Or.inl ⟨by kernel_rfl, ?_⟩) hS ?_
  rotate_left
  · intro V hV
    go_simp
    (try with_reducible rfl)
  simp only [put_list, List.set_cons_succ, List.set_cons_zero]
  refine wpAnyH_takeL (i := 19) (v := ?_) rfl (by kernel_rfl) (by kernel_rfl) (by kernel_rfl) (fun _ _ _ h => h) (Or.inl ⟨by kernel_rfl, ?_⟩) hS ?_
  rotate_left
  · intro V hV
    go_simp
    (try with_reducible rfl)
  simp only [put_list, List.set_cons_succ, List.set_cons_zero]
  refine wpAnyH_takeL (i := 20) (v := ?_) rfl (by kernel_rfl) (by kernel_rfl) (by kernel_rfl) (fun _ _ _ h => h) (Or.inl ⟨by kernel_rfl, ?_⟩) hS ?_
  rotate_left
  · intro V hV
    have k0 := (hV.cell (p := ⟨w.heap.size, 0, none⟩) hlx).trans cx0
    have k1 := (hV.cell (p := ⟨w.heap.size, 1, none⟩) hlx).trans cx1
    have k2 := (hV.cell (p := ⟨w.heap.size, 2, none⟩) hlx).trans cx2
    have k3 := (hV.cell (p := ⟨w.heap.size, 3, none⟩) hlx).trans cx3
    go_simp
    (try with_reducible rfl)
  simp only [put_list, List.set_cons_succ, List.set_cons_zero]
  refine wpAnyH_takeL (i := 21) (v := ?_) rfl (by kernel_rfl) (by kernel_rfl) (by kernel_rfl) (fun _ _ _ h => h) (Or.inl ⟨by kernel_rfl, ?_⟩) hS ?_
  rotate_left
  · intro V hV
    have k0 := (hV.cell (p := ⟨w.heap.size + 1, 0, none⟩) hly).trans cy0
    have k1 := (hV.cell (p := ⟨w.heap.size + 1, 1, none⟩) hly).trans cy1
    have k2 := (hV.cell (p := ⟨w.heap.size + 1, 2, none⟩) hly).trans cy2
    have k3 := (hV.cell (p := ⟨w.heap.size + 1, 3, none⟩) hly).trans cy3
    go_simp
    (try with_reducible rfl)
  simp only [put_list, List.set_cons_succ, List.set_cons_zero]
  refine wpAnyH_takeL (i := 23) (v := ?_) rfl (by kernel_rfl) (by kernel_rfl) (by kernel_rfl) (fun _ _ _ h => h) (Or.inl ⟨by kernel_rfl, ?_⟩) hS ?_
  rotate_left
  · intro V hV
    have k0 := (hV.cell (p := ⟨w.heap.size + 1, 0, none⟩) hly).trans cy0
    have k1 := (hV.cell (p := ⟨w.heap.size + 1, 1, none⟩) hly).trans cy1
    have k2 := (hV.cell (p := ⟨w.heap.size + 1, 2, none⟩) hly).trans cy2
    have k3 := (hV.cell (p := ⟨w.heap.size + 1, 3, none⟩) hly).trans cy3
    go_simp
    (try with_reducible rfl)
  simp only [put_list, List.set_cons_succ, List.set_cons_zero]
  refine wpAnyH_takeL (i := 24) (v := ?_) rfl (by kernel_rfl) (by kernel_rfl) (by kernel_rfl) (fun _ _ _ h => h) (Or.inl ⟨by kernel_rfl, ?_⟩) hS ?_
  rotate_left
  · intro V hV
    have k0 := (hV.cell (p := ⟨w.heap.size, 0, none⟩) hlx).trans cx0
    have k1 := (hV.cell (p := ⟨w.heap.size, 1, none⟩) hlx).trans cx1
    have k2 := (hV.cell (p := ⟨w.heap.size, 2, none⟩) hlx).trans cx2
    have k3 := (hV.cell (p := ⟨w.heap.size, 3, none⟩) hlx).trans cx3
    go_simp
    (try with_reducible rfl)
  simp only [put_list, List.set_cons_succ, List.set_cons_zero]
  refine wpAnyH_ready (rs := [22]) (by kernel_rfl) (by simp) (AllReadyH.cons rfl (fun K hK => ?_) AllReadyH.nil)
  go_simp
  refine (Ck3.out _).mono ?_
  rintro e U6 ⟨rfl, hbc⟩
  refine hK.out _ _ (hS.trans (hbc.mono hS.size)) (fun hS => ?_)
  clear hK K hbc
  refine wpAnyH_ready (rs := [25]) (by kernel_rfl) (by simp) (AllReadyH.cons rfl (fun K hK => ?_) AllReadyH.nil)
  go_simp
  refine (Ck7.out _).mono ?_
  rintro e U7 ⟨rfl, hbc⟩
  refine hK.out _ _ (hS.trans (hbc.mono hS.size)) (fun hS => ?_)
  clear hK K hbc
  refine wpAnyH_takeL (i := 26) (v := ?_) rfl (by kernel_rfl) (by kernel_rfl) (by kernel_rfl) (fun _ _ _ h => h) (Or.inl ⟨by kernel_rfl, ?_⟩) hS ?_
  rotate_left
  · intro V hV
    go_simp
    (try with_reducible rfl)
  simp only [put_list, List.set_cons_succ, List.set_cons_zero]
  refine wpAnyH_takeL (i := 27) (v := ?_) rfl (by kernel_rfl) (by kernel_rfl) (by kernel_rfl) (fun _ _ _ h => h) (Or.inl ⟨by kernel_rfl, ?_⟩) hS ?_
  rotate_left
  · intro V hV
    go_simp
    (try with_reducible rfl)
  simp only [put_list, List.set_cons_succ, List.set_cons_zero]
  refine wpAnyH_takeL (i := 28) (v := ?_) rfl (by kernel_rfl) (by kernel_rfl) (by kernel_rfl) (fun _ _ _ h => h) (Or.inl ⟨by kernel_rfl, ?_⟩) hS ?_
  rotate_left
  · intro V hV
    go_simp
    (try with_reducible rfl)
  simp only [put_list, List.set_cons_succ, List.set_cons_zero]
  refine wpAnyH_ready (rs := [29]) (by kernel_rfl) (by simp) (AllReadyH.cons rfl (fun K hK => ?_) AllReadyH.nil)
  go_simp
  refine hK.out _ _ hS (fun hS => ?_)
  clear hK K
  refine wpAnyH_done (by kernel_rfl) ?_ _
  go_wp2_with fail
  go_ret
  exact ⟨rfl, HBW.out.trans (hS.mono HBW.out.size)⟩

end Go.Proofs.Ytpnijncoldihfaa
