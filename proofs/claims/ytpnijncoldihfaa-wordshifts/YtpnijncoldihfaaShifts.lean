/-
  Shifting is multiplying and dividing by powers of two: the walk of the law.
-/
import Derived.Test.YtpnijncoldihfaaDivMod
import Derived.Test.YtpnijncoldihfaaRing
import Derived.Test.YtpnijncoldihfaaSigned
namespace Go.Proofs.Ytpnijncoldihfaa
open Go.RowKit Go.Shelf

theorem at_world_calls {P : Program} {f : FuncId} {args : Array Value} {w : World} {Q : Ending → World → Prop} (h : ∀ W0, W0 = w → Calls P f args W0 Q) : Calls P f args w Q := h w rfl

theorem below_any (X : Nat) (w : World) : Calls Try.prog 82 #[wv X] w fun e w' => e = .returned (.bool (negB X)) ∧ Below w.heap.size w w' := by
  obtain ⟨x0, x1, x2, x3, h0, h1, h2, h3, eX, hX⟩ := wv_limbs X
  have hn : negB X = ((x3 : Int) / 9223372036854775808 == 1) := by
    unfold negB
    rw [eX, Bool.eq_iff_iff]
    simp only [decide_eq_true_eq, beq_iff_eq]
    rw [top_iff h0 h1 h2]
    omega
  rw [hX, hn]
  clear hX hn eX h0 h1 h2 h3
  go_enter Try.func82, Try.ntmps82
  go_wp2
  go_ret
  refine ⟨rfl, ?_⟩
  repeat first | exact Below.refl _ _ | apply Below.drew | (refine Below.alloc ?_ (by simp <;> omega) _) | (refine Below.setCell ?_ (by simp <;> omega) _)

theorem two_pow_mod {k : Nat} (h : k < 256) : 2 ^ k % M256 = 2 ^ k := Nat.mod_eq_of_lt (by rw [show M256 = 2 ^ 256 by decide]; exact Nat.pow_lt_pow_right (by omega) h)

theorem sh_mul {X k : Nat} (h : k < 256) : wv (X * 2 ^ k) = wv (shlN k X) := by unfold shlN; rw [if_pos h]
theorem sh_div {X k : Nat} (h : k < 256) : wv (X % M256 / (2 ^ k % M256)) = wv (shrN k X) := by unfold shrN; rw [if_pos h, two_pow_mod h]
theorem sh_back {X k : Nat} (h : k < 256) : wv (X + negN (restN (X % M256) (2 ^ k % M256))) = wv (shlN k (shrN k X)) := by
  have hP : 0 < 2 ^ k := Nat.two_pow_pos k
  unfold shlN shrN restN
  rw [if_pos h, if_pos h, two_pow_mod h, if_neg (by omega)]
  have hx : X % M256 < M256 := Nat.mod_lt _ M256_pos
  have hd := Nat.div_add_mod (X % M256) (2 ^ k)
  have hr : X % M256 % 2 ^ k ≤ X % M256 := Nat.mod_le _ _
  apply wv_congr
  unfold negN
  rw [Nat.mod_eq_of_lt (show X % M256 % 2 ^ k < M256 by omega)]
  rw [Nat.mul_comm] at hd
  have e : X % M256 + (M256 - X % M256 % 2 ^ k) = X % M256 / 2 ^ k * 2 ^ k + M256 := by omega
  rw [← Nat.mod_add_mod X M256, e, Nat.add_mod_right]
theorem sar_neg {X k : Nat} (h : negB X = true) : wv (M256 - 1 - shrN k (M256 - 1 - X % M256) % M256) = wv (sarN k X) := by unfold sarN; rw [if_pos h]
theorem sar_pos {X k : Nat} (h : negB X = false) : wv (shrN k X) = wv (sarN k X) := by unfold sarN; rw [if_neg (by simp [h])]
theorem or_256 {n : Nat} (hn : n < 18446744073709551616) : ∃ m : Nat, m < 18446744073709551616 ∧ 256 ≤ m ∧ bits .or .u64 (n : Int) 256 = (m : Int) := by
  refine ⟨n ||| 256, ?_, Nat.right_le_or, bits_or_u64_nat n 256 hn (by omega)⟩
  have := Nat.or_lt_two_pow (n := 64) (show n < 2 ^ 64 by simpa using hn) (show 256 < 2 ^ 64 by decide)
  simpa using this

set_option maxHeartbeats 8000000 in
set_option maxRecDepth 100000 in
theorem shifts_calls (X n : Nat) (hn : n < 18446744073709551616) (w : World) : Calls Try.prog 13 #[wv X, .int .u64 n] w fun e w' => e = .returned (.bool true) ∧ Below w.heap.size w w' := by
  obtain ⟨k, hk⟩ : ∃ k, k = n % 256 := ⟨_, rfl⟩
  have hk256 : k < 256 := by omega
  have hkm : k % M256 = k := small_mod (by omega)
  have hki : (n : Int) % 256 = (k : Int) := by omega
  obtain ⟨m, hm64, hm, hor⟩ := or_256 hn
  have hmm : 256 ≤ m % M256 := by rw [small_mod hm64]; exact hm
  have hkw : wv k = .agg #[.int .u64 k, .int .u64 0, .int .u64 0, .int .u64 0] := wv_small (by omega)
  have hmw : wv m = .agg #[.int .u64 m, .int .u64 0, .int .u64 0, .int .u64 0] := wv_small hm64
  have htw : wv 2 = .agg #[.int .u64 2, .int .u64 0, .int .u64 0, .int .u64 0] := rfl
  have hzw : wv 0 = .agg #[.int .u64 0, .int .u64 0, .int .u64 0, .int .u64 0] := rfl
  obtain ⟨x0, x1, x2, x3, hx⟩ := wv_form X
  obtain ⟨p0, p1, p2, p3, hp⟩ := wv_form (2 ^ k)
  obtain ⟨s0, s1, s2, s3, hs⟩ := wv_form (shlN k X)
  obtain ⟨r0, r1, r2, r3, hr⟩ := wv_form (shrN k X)
  obtain ⟨b0, b1, b2, b3, hb⟩ := wv_form (shlN k (shrN k X))
  obtain ⟨o0, o1, o2, o3, ho⟩ := wv_form (restN (X % M256) (2 ^ k % M256))
  obtain ⟨u0, u1, u2, u3, hu⟩ := wv_form (sarN k X)
  have k1 := fun W => exp_any 2 k W
  rw [hkm] at k1
  simp only [htw, hkw, hp] at k1
  have Ck1 := hideP k1
  clear k1
  have k2 := fun W => shl_any k X W
  rw [hkm] at k2
  simp only [hkw, hx, hs] at k2
  have Ck2 := hideP k2
  clear k2
  have k3 := fun W => mul_any X (2 ^ k) W
  rw [sh_mul hk256] at k3
  simp only [hx, hp, hs] at k3
  have Ck3 := hideP k3
  clear k3
  have k4 := fun W => shr_any k X W
  rw [hkm] at k4
  simp only [hkw, hx, hr] at k4
  have Ck4 := hideP k4
  clear k4
  have k5 := fun W => div_any X (2 ^ k) W
  rw [sh_div hk256] at k5
  simp only [hx, hp, hr] at k5
  have Ck5 := hideP k5
  clear k5
  have k6 := fun W => shl_any k (shrN k X) W
  rw [hkm] at k6
  simp only [hkw, hr, hb] at k6
  have Ck6 := hideP k6
  clear k6
  have k7 := fun W => mod_any X (2 ^ k) W
  simp only [hx, hp, ho] at k7
  have Ck7 := hideP k7
  clear k7
  have k8 := fun W => sub_any W X (restN (X % M256) (2 ^ k % M256))
  rw [sh_back hk256] at k8
  simp only [hx, ho, hb] at k8
  have Ck8 := hideP k8
  clear k8
  have k9 := fun W => below_any X W
  simp only [hx] at k9
  have Ck9 := hideP k9
  clear k9
  have k10 := fun W => sar_any k X W
  rw [hkm] at k10
  simp only [hkw, hx, hu] at k10
  have Ck10 := hideP k10
  clear k10
  have k11 := fun W => shl_out m X hmm W
  simp only [hmw, hx, hzw] at k11
  have Ck11 := hideP k11
  clear k11
  have CAW := hideP (fun W => awake_any W)
  have eqw := eq_words
  by_cases hneg : negB X = true
  · obtain ⟨a0, a1, a2, a3, ha⟩ := wv_form (M256 - 1 - X % M256)
    obtain ⟨d0, d1, d2, d3, hd⟩ := wv_form (shrN k (M256 - 1 - X % M256))
    have k12 := fun W => not_any X W
    simp only [hx, ha] at k12
    have Ck12 := hideP k12
    clear k12
    have k13 := fun W => shr_any k (M256 - 1 - X % M256) W
    rw [hkm] at k13
    simp only [hkw, ha, hd] at k13
    have Ck13 := hideP k13
    clear k13
    have k14 := fun W => not_any (shrN k (M256 - 1 - X % M256)) W
    rw [sar_neg hneg] at k14
    simp only [hd, hu] at k14
    have Ck14 := hideP k14
    clear k14
    rw [hneg] at Ck9
    simp only [hx]
    clear hx hp hs hr hb ho hu hkw hmw htw hzw hk256 hkm hm64 hm hmm hk hn hneg ha hd
    go_enter Try.func13, Try.ntmps13
    go_wp2_with fail
    refine (CAW.out _).mono ?_
    rintro e W0 ⟨rfl, hb⟩
    have HBx : Hid (W0.heap[w.heap.size]? = some (.cells #[.int .u64 x0, .int .u64 x1, .int .u64 x2, .int .u64 x3] 24 (0, 0))) := (kept4 hb (heap_new _ _)).1
    have HBW : Hid (Below w.heap.size w W0) := ((Below.refl _ w).alloc (Nat.le_refl _) _).trans (hb.mono (by simp <;> omega))
    clear hb
    go_wp2_with fail
    refine at_world_calls (fun V1 hU => ?_)
    have HBk : Hid (V1.heap[W0.heap.size]? = some (.cells #[.int .u64 k, .int .u64 0, .int .u64 0, .int .u64 0] 24 (0, 0))) := by
      show _ = _
      rw [hU]
      exact heap_new _ _
    have hb : Below W0.heap.size W0 V1 := by
      rw [hU]
      exact (Below.refl _ _).alloc (Nat.le_refl _) _
    clear hU
    replace HBx : Hid (V1.heap[w.heap.size]? = some (.cells #[.int .u64 x0, .int .u64 x1, .int .u64 x2, .int .u64 x3] 24 (0, 0))) := (hb.block _ (Array.getElem?_eq_some_iff.1 HBx.out).1).trans HBx.out
    replace HBW : Hid (Below w.heap.size w V1) := HBW.out.trans (hb.mono HBW.out.size)
    clear hb
    refine (Ck1.out _).mono ?_
    rintro e V2 ⟨rfl, hb⟩
    replace HBx : Hid (V2.heap[w.heap.size]? = some (.cells #[.int .u64 x0, .int .u64 x1, .int .u64 x2, .int .u64 x3] 24 (0, 0))) := (hb.block _ (Array.getElem?_eq_some_iff.1 HBx.out).1).trans HBx.out
    replace HBk : Hid (V2.heap[W0.heap.size]? = some (.cells #[.int .u64 k, .int .u64 0, .int .u64 0, .int .u64 0] 24 (0, 0))) := (hb.block _ (Array.getElem?_eq_some_iff.1 HBk.out).1).trans HBk.out
    replace HBW : Hid (Below w.heap.size w V2) := HBW.out.trans (hb.mono HBW.out.size)
    clear hb
    go_wp2_with fail
    refine at_world (fun V3 hU => ?_)
    have HBp : Hid (V3.heap[V2.heap.size]? = some (.cells #[.int .u64 p0, .int .u64 p1, .int .u64 p2, .int .u64 p3] 24 (0, 0))) := by
      show _ = _
      rw [hU]
      exact heap_new _ _
    have hb : Below V2.heap.size V2 V3 := by
      rw [hU]
      exact (Below.refl _ _).alloc (Nat.le_refl _) _
    clear hU
    replace HBx : Hid (V3.heap[w.heap.size]? = some (.cells #[.int .u64 x0, .int .u64 x1, .int .u64 x2, .int .u64 x3] 24 (0, 0))) := (hb.block _ (Array.getElem?_eq_some_iff.1 HBx.out).1).trans HBx.out
    replace HBk : Hid (V3.heap[W0.heap.size]? = some (.cells #[.int .u64 k, .int .u64 0, .int .u64 0, .int .u64 0] 24 (0, 0))) := (hb.block _ (Array.getElem?_eq_some_iff.1 HBk.out).1).trans HBk.out
    replace HBW : Hid (Below w.heap.size w V3) := HBW.out.trans (hb.mono HBW.out.size)
    clear hb
    obtain ⟨cx0, cx1, cx2, cx3⟩ := cells4 HBx.out
    have hlx := (Array.getElem?_eq_some_iff.1 HBx.out).1
    obtain ⟨ck0, ck1, ck2, ck3⟩ := cells4 HBk.out
    have hlk := (Array.getElem?_eq_some_iff.1 HBk.out).1
    obtain ⟨cp0, cp1, cp2, cp3⟩ := cells4 HBp.out
    have hlp := (Array.getElem?_eq_some_iff.1 HBp.out).1
    refine wp_region_heldS (S := fun V => Below V3.heap.size V3 V) (by kernel_rfl) (Below.refl _ _).drew (fun hS => ?_)
    refine wpAnyH_takeL (i := 0) (v := ?_) rfl (by kernel_rfl) (by kernel_rfl) (by kernel_rfl) (fun _ _ _ h => h) (Or.inl ⟨by kernel_rfl, ?_⟩) hS ?_
    rotate_left
    · intro V hV
      have k0 := (hV.cell (p := ⟨W0.heap.size, 0, none⟩) hlk).trans ck0
      have k1 := (hV.cell (p := ⟨W0.heap.size, 1, none⟩) hlk).trans ck1
      have k2 := (hV.cell (p := ⟨W0.heap.size, 2, none⟩) hlk).trans ck2
      have k3 := (hV.cell (p := ⟨W0.heap.size, 3, none⟩) hlk).trans ck3
      go_simp
      (try with_reducible rfl)
    simp only [put_list, List.set_cons_succ, List.set_cons_zero]
    refine wpAnyH_takeL (i := 1) (v := ?_) rfl (by kernel_rfl) (by kernel_rfl) (by kernel_rfl) (fun _ _ _ h => h) (Or.inl ⟨by kernel_rfl, ?_⟩) hS ?_
    rotate_left
    · intro V hV
      have k0 := (hV.cell (p := ⟨w.heap.size, 0, none⟩) hlx).trans cx0
      have k1 := (hV.cell (p := ⟨w.heap.size, 1, none⟩) hlx).trans cx1
      have k2 := (hV.cell (p := ⟨w.heap.size, 2, none⟩) hlx).trans cx2
      have k3 := (hV.cell (p := ⟨w.heap.size, 3, none⟩) hlx).trans cx3
      go_simp
      (try with_reducible rfl)
    simp only [put_list, List.set_cons_succ, List.set_cons_zero]
    refine wpAnyH_takeL (i := 3) (v := ?_) rfl (by kernel_rfl) (by kernel_rfl) (by kernel_rfl) (fun _ _ _ h => h) (Or.inl ⟨by kernel_rfl, ?_⟩) hS ?_
    rotate_left
    · intro V hV
      have k0 := (hV.cell (p := ⟨w.heap.size, 0, none⟩) hlx).trans cx0
      have k1 := (hV.cell (p := ⟨w.heap.size, 1, none⟩) hlx).trans cx1
      have k2 := (hV.cell (p := ⟨w.heap.size, 2, none⟩) hlx).trans cx2
      have k3 := (hV.cell (p := ⟨w.heap.size, 3, none⟩) hlx).trans cx3
      go_simp
      (try with_reducible rfl)
    simp only [put_list, List.set_cons_succ, List.set_cons_zero]
    refine wpAnyH_takeL (i := 4) (v := ?_) rfl (by kernel_rfl) (by kernel_rfl) (by kernel_rfl) (fun _ _ _ h => h) (Or.inl ⟨by kernel_rfl, ?_⟩) hS ?_
    rotate_left
    · intro V hV
      have k0 := (hV.cell (p := ⟨V2.heap.size, 0, none⟩) hlp).trans cp0
      have k1 := (hV.cell (p := ⟨V2.heap.size, 1, none⟩) hlp).trans cp1
      have k2 := (hV.cell (p := ⟨V2.heap.size, 2, none⟩) hlp).trans cp2
      have k3 := (hV.cell (p := ⟨V2.heap.size, 3, none⟩) hlp).trans cp3
      go_simp
      (try with_reducible rfl)
    simp only [put_list, List.set_cons_succ, List.set_cons_zero]
    refine wpAnyH_ready (rs := [2]) (by kernel_rfl) (by simp) (AllReadyH.cons rfl (fun K hK => ?_) AllReadyH.nil)
    go_simp
    refine (Ck2.out _).mono ?_
    rintro e U1 ⟨rfl, hbc⟩
    refine hK.out _ _ (hS.trans (hbc.mono hS.size)) (fun hS => ?_)
    clear hK K hbc
    refine wpAnyH_ready (rs := [5]) (by kernel_rfl) (by simp) (AllReadyH.cons rfl (fun K hK => ?_) AllReadyH.nil)
    go_simp
    refine (Ck3.out _).mono ?_
    rintro e U2 ⟨rfl, hbc⟩
    refine hK.out _ _ (hS.trans (hbc.mono hS.size)) (fun hS => ?_)
    clear hK K hbc
    refine wpAnyH_takeL (i := 6) (v := ?_) rfl (by kernel_rfl) (by kernel_rfl) (by kernel_rfl) (fun _ _ _ h => h) (Or.inl ⟨by kernel_rfl, ?_⟩) hS ?_
    rotate_left
    · intro V hV
      go_simp
      (try with_reducible rfl)
    simp only [put_list, List.set_cons_succ, List.set_cons_zero]
    refine wpAnyH_takeL (i := 7) (v := ?_) rfl (by kernel_rfl) (by kernel_rfl) (by kernel_rfl) (fun _ _ _ h => h) (Or.inl ⟨by kernel_rfl, ?_⟩) hS ?_
    rotate_left
    · intro V hV
      go_simp
      (try with_reducible rfl)
    simp only [put_list, List.set_cons_succ, List.set_cons_zero]
    refine wpAnyH_takeL (i := 8) (v := ?_) rfl (by kernel_rfl) (by kernel_rfl) (by kernel_rfl) (fun _ _ _ h => h) (Or.inl ⟨by kernel_rfl, ?_⟩) hS ?_
    rotate_left
    · intro V hV
      have k0 := (hV.cell (p := ⟨W0.heap.size, 0, none⟩) hlk).trans ck0
      have k1 := (hV.cell (p := ⟨W0.heap.size, 1, none⟩) hlk).trans ck1
      have k2 := (hV.cell (p := ⟨W0.heap.size, 2, none⟩) hlk).trans ck2
      have k3 := (hV.cell (p := ⟨W0.heap.size, 3, none⟩) hlk).trans ck3
      go_simp
      (try with_reducible rfl)
    simp only [put_list, List.set_cons_succ, List.set_cons_zero]
    refine wpAnyH_takeL (i := 9) (v := ?_) rfl (by kernel_rfl) (by kernel_rfl) (by kernel_rfl) (fun _ _ _ h => h) (Or.inl ⟨by kernel_rfl, ?_⟩) hS ?_
    rotate_left
    · intro V hV
      have k0 := (hV.cell (p := ⟨w.heap.size, 0, none⟩) hlx).trans cx0
      have k1 := (hV.cell (p := ⟨w.heap.size, 1, none⟩) hlx).trans cx1
      have k2 := (hV.cell (p := ⟨w.heap.size, 2, none⟩) hlx).trans cx2
      have k3 := (hV.cell (p := ⟨w.heap.size, 3, none⟩) hlx).trans cx3
      go_simp
      (try with_reducible rfl)
    simp only [put_list, List.set_cons_succ, List.set_cons_zero]
    refine wpAnyH_takeL (i := 11) (v := ?_) rfl (by kernel_rfl) (by kernel_rfl) (by kernel_rfl) (fun _ _ _ h => h) (Or.inl ⟨by kernel_rfl, ?_⟩) hS ?_
    rotate_left
    · intro V hV
      have k0 := (hV.cell (p := ⟨w.heap.size, 0, none⟩) hlx).trans cx0
      have k1 := (hV.cell (p := ⟨w.heap.size, 1, none⟩) hlx).trans cx1
      have k2 := (hV.cell (p := ⟨w.heap.size, 2, none⟩) hlx).trans cx2
      have k3 := (hV.cell (p := ⟨w.heap.size, 3, none⟩) hlx).trans cx3
      go_simp
      (try with_reducible rfl)
    simp only [put_list, List.set_cons_succ, List.set_cons_zero]
    refine wpAnyH_takeL (i := 12) (v := ?_) rfl (by kernel_rfl) (by kernel_rfl) (by kernel_rfl) (fun _ _ _ h => h) (Or.inl ⟨by kernel_rfl, ?_⟩) hS ?_
    rotate_left
    · intro V hV
      have k0 := (hV.cell (p := ⟨V2.heap.size, 0, none⟩) hlp).trans cp0
      have k1 := (hV.cell (p := ⟨V2.heap.size, 1, none⟩) hlp).trans cp1
      have k2 := (hV.cell (p := ⟨V2.heap.size, 2, none⟩) hlp).trans cp2
      have k3 := (hV.cell (p := ⟨V2.heap.size, 3, none⟩) hlp).trans cp3
      go_simp
      (try with_reducible rfl)
    simp only [put_list, List.set_cons_succ, List.set_cons_zero]
    refine wpAnyH_ready (rs := [10]) (by kernel_rfl) (by simp) (AllReadyH.cons rfl (fun K hK => ?_) AllReadyH.nil)
    go_simp
    refine (Ck4.out _).mono ?_
    rintro e U3 ⟨rfl, hbc⟩
    refine hK.out _ _ (hS.trans (hbc.mono hS.size)) (fun hS => ?_)
    clear hK K hbc
    refine wpAnyH_ready (rs := [13]) (by kernel_rfl) (by simp) (AllReadyH.cons rfl (fun K hK => ?_) AllReadyH.nil)
    go_simp
    refine (Ck5.out _).mono ?_
    rintro e U4 ⟨rfl, hbc⟩
    refine hK.out _ _ (hS.trans (hbc.mono hS.size)) (fun hS => ?_)
    clear hK K hbc
    refine wpAnyH_takeL (i := 14) (v := ?_) rfl (by kernel_rfl) (by kernel_rfl) (by kernel_rfl) (fun _ _ _ h => h) (Or.inl ⟨by kernel_rfl, ?_⟩) hS ?_
    rotate_left
    · intro V hV
      go_simp
      (try with_reducible rfl)
    simp only [put_list, List.set_cons_succ, List.set_cons_zero]
    refine wpAnyH_takeL (i := 15) (v := ?_) rfl (by kernel_rfl) (by kernel_rfl) (by kernel_rfl) (fun _ _ _ h => h) (Or.inl ⟨by kernel_rfl, ?_⟩) hS ?_
    rotate_left
    · intro V hV
      go_simp
      (try with_reducible rfl)
    simp only [put_list, List.set_cons_succ, List.set_cons_zero]
    refine wpAnyH_takeL (i := 16) (v := ?_) rfl (by kernel_rfl) (by kernel_rfl) (by kernel_rfl) (fun _ _ _ h => h) (Or.inl ⟨by kernel_rfl, ?_⟩) hS ?_
    rotate_left
    · intro V hV
      go_simp
      (try with_reducible rfl)
    simp only [put_list, List.set_cons_succ, List.set_cons_zero]
    refine wpAnyH_takeL (i := 17) (v := ?_) rfl (by kernel_rfl) (by kernel_rfl) (by kernel_rfl) (fun _ _ _ h => h) (Or.inl ⟨by kernel_rfl, ?_⟩) hS ?_
    rotate_left
    · intro V hV
      have k0 := (hV.cell (p := ⟨W0.heap.size, 0, none⟩) hlk).trans ck0
      have k1 := (hV.cell (p := ⟨W0.heap.size, 1, none⟩) hlk).trans ck1
      have k2 := (hV.cell (p := ⟨W0.heap.size, 2, none⟩) hlk).trans ck2
      have k3 := (hV.cell (p := ⟨W0.heap.size, 3, none⟩) hlk).trans ck3
      go_simp
      (try with_reducible rfl)
    simp only [put_list, List.set_cons_succ, List.set_cons_zero]
    refine wpAnyH_takeL (i := 18) (v := ?_) rfl (by kernel_rfl) (by kernel_rfl) (by kernel_rfl) (fun _ _ _ h => h) (Or.inl ⟨by kernel_rfl, ?_⟩) hS ?_
    rotate_left
    · intro V hV
      have k0 := (hV.cell (p := ⟨W0.heap.size, 0, none⟩) hlk).trans ck0
      have k1 := (hV.cell (p := ⟨W0.heap.size, 1, none⟩) hlk).trans ck1
      have k2 := (hV.cell (p := ⟨W0.heap.size, 2, none⟩) hlk).trans ck2
      have k3 := (hV.cell (p := ⟨W0.heap.size, 3, none⟩) hlk).trans ck3
      go_simp
      (try with_reducible rfl)
    simp only [put_list, List.set_cons_succ, List.set_cons_zero]
    refine wpAnyH_takeL (i := 19) (v := ?_) rfl (by kernel_rfl) (by kernel_rfl) (by kernel_rfl) (fun _ _ _ h => h) (Or.inl ⟨by kernel_rfl, ?_⟩) hS ?_
    rotate_left
    · intro V hV
      have k0 := (hV.cell (p := ⟨w.heap.size, 0, none⟩) hlx).trans cx0
      have k1 := (hV.cell (p := ⟨w.heap.size, 1, none⟩) hlx).trans cx1
      have k2 := (hV.cell (p := ⟨w.heap.size, 2, none⟩) hlx).trans cx2
      have k3 := (hV.cell (p := ⟨w.heap.size, 3, none⟩) hlx).trans cx3
      go_simp
      (try with_reducible rfl)
    simp only [put_list, List.set_cons_succ, List.set_cons_zero]
    refine wpAnyH_takeL (i := 22) (v := ?_) rfl (by kernel_rfl) (by kernel_rfl) (by kernel_rfl) (fun _ _ _ h => h) (Or.inl ⟨by kernel_rfl, ?_⟩) hS ?_
    rotate_left
    · intro V hV
      have k0 := (hV.cell (p := ⟨w.heap.size, 0, none⟩) hlx).trans cx0
      have k1 := (hV.cell (p := ⟨w.heap.size, 1, none⟩) hlx).trans cx1
      have k2 := (hV.cell (p := ⟨w.heap.size, 2, none⟩) hlx).trans cx2
      have k3 := (hV.cell (p := ⟨w.heap.size, 3, none⟩) hlx).trans cx3
      go_simp
      (try with_reducible rfl)
    simp only [put_list, List.set_cons_succ, List.set_cons_zero]
    refine wpAnyH_takeL (i := 23) (v := ?_) rfl (by kernel_rfl) (by kernel_rfl) (by kernel_rfl) (fun _ _ _ h => h) (Or.inl ⟨by kernel_rfl, ?_⟩) hS ?_
    rotate_left
    · intro V hV
      have k0 := (hV.cell (p := ⟨w.heap.size, 0, none⟩) hlx).trans cx0
      have k1 := (hV.cell (p := ⟨w.heap.size, 1, none⟩) hlx).trans cx1
      have k2 := (hV.cell (p := ⟨w.heap.size, 2, none⟩) hlx).trans cx2
      have k3 := (hV.cell (p := ⟨w.heap.size, 3, none⟩) hlx).trans cx3
      go_simp
      (try with_reducible rfl)
    simp only [put_list, List.set_cons_succ, List.set_cons_zero]
    refine wpAnyH_takeL (i := 24) (v := ?_) rfl (by kernel_rfl) (by kernel_rfl) (by kernel_rfl) (fun _ _ _ h => h) (Or.inl ⟨by kernel_rfl, ?_⟩) hS ?_
    rotate_left
    · intro V hV
      have k0 := (hV.cell (p := ⟨V2.heap.size, 0, none⟩) hlp).trans cp0
      have k1 := (hV.cell (p := ⟨V2.heap.size, 1, none⟩) hlp).trans cp1
      have k2 := (hV.cell (p := ⟨V2.heap.size, 2, none⟩) hlp).trans cp2
      have k3 := (hV.cell (p := ⟨V2.heap.size, 3, none⟩) hlp).trans cp3
      go_simp
      (try with_reducible rfl)
    simp only [put_list, List.set_cons_succ, List.set_cons_zero]
    refine wpAnyH_ready (rs := [20]) (by kernel_rfl) (by simp) (AllReadyH.cons rfl (fun K hK => ?_) AllReadyH.nil)
    go_simp
    refine (Ck4.out _).mono ?_
    rintro e U5 ⟨rfl, hbc⟩
    refine hK.out _ _ (hS.trans (hbc.mono hS.size)) (fun hS => ?_)
    clear hK K hbc
    refine wpAnyH_ready (rs := [21]) (by kernel_rfl) (by simp) (AllReadyH.cons rfl (fun K hK => ?_) AllReadyH.nil)
    go_simp
    refine (Ck6.out _).mono ?_
    rintro e U6 ⟨rfl, hbc⟩
    refine hK.out _ _ (hS.trans (hbc.mono hS.size)) (fun hS => ?_)
    clear hK K hbc
    refine wpAnyH_ready (rs := [25]) (by kernel_rfl) (by simp) (AllReadyH.cons rfl (fun K hK => ?_) AllReadyH.nil)
    go_simp
    refine (Ck7.out _).mono ?_
    rintro e U7 ⟨rfl, hbc⟩
    refine hK.out _ _ (hS.trans (hbc.mono hS.size)) (fun hS => ?_)
    clear hK K hbc
    refine wpAnyH_ready (rs := [26]) (by kernel_rfl) (by simp) (AllReadyH.cons rfl (fun K hK => ?_) AllReadyH.nil)
    go_simp
    refine (Ck8.out _).mono ?_
    rintro e U8 ⟨rfl, hbc⟩
    refine hK.out _ _ (hS.trans (hbc.mono hS.size)) (fun hS => ?_)
    clear hK K hbc
    refine wpAnyH_takeL (i := 27) (v := ?_) rfl (by kernel_rfl) (by kernel_rfl) (by kernel_rfl) (fun _ _ _ h => h) (Or.inl ⟨by kernel_rfl, ?_⟩) hS ?_
    rotate_left
    · intro V hV
      go_simp
      (try with_reducible rfl)
    simp only [put_list, List.set_cons_succ, List.set_cons_zero]
    refine wpAnyH_takeL (i := 28) (v := ?_) rfl (by kernel_rfl) (by kernel_rfl) (by kernel_rfl) (fun _ _ _ h => h) (Or.inl ⟨by kernel_rfl, ?_⟩) hS ?_
    rotate_left
    · intro V hV
      go_simp
      (try with_reducible rfl)
    simp only [put_list, List.set_cons_succ, List.set_cons_zero]
    refine wpAnyH_done (by kernel_rfl) ?_ _
    clear cx0 cx1 cx2 cx3 hlx
    clear ck0 ck1 ck2 ck3 hlk
    clear cp0 cp1 cp2 cp3 hlp
    replace HBx : Hid (U8.heap[w.heap.size]? = some (.cells #[.int .u64 x0, .int .u64 x1, .int .u64 x2, .int .u64 x3] 24 (0, 0))) := (hS.block _ (Array.getElem?_eq_some_iff.1 HBx.out).1).trans HBx.out
    replace HBk : Hid (U8.heap[W0.heap.size]? = some (.cells #[.int .u64 k, .int .u64 0, .int .u64 0, .int .u64 0] 24 (0, 0))) := (hS.block _ (Array.getElem?_eq_some_iff.1 HBk.out).1).trans HBk.out
    replace HBp : Hid (U8.heap[V2.heap.size]? = some (.cells #[.int .u64 p0, .int .u64 p1, .int .u64 p2, .int .u64 p3] 24 (0, 0))) := (hS.block _ (Array.getElem?_eq_some_iff.1 HBp.out).1).trans HBp.out
    replace HBW : Hid (Below w.heap.size w U8) := HBW.out.trans (hS.mono HBW.out.size)
    clear hS
    obtain ⟨cx0, cx1, cx2, cx3⟩ := cells4 HBx.out
    have hlx := (Array.getElem?_eq_some_iff.1 HBx.out).1
    obtain ⟨ck0, ck1, ck2, ck3⟩ := cells4 HBk.out
    have hlk := (Array.getElem?_eq_some_iff.1 HBk.out).1
    go_wp2_with fail
    refine (Ck4.out _).mono ?_
    rintro e V4 ⟨rfl, hb⟩
    replace HBx : Hid (V4.heap[w.heap.size]? = some (.cells #[.int .u64 x0, .int .u64 x1, .int .u64 x2, .int .u64 x3] 24 (0, 0))) := (hb.block _ (Array.getElem?_eq_some_iff.1 HBx.out).1).trans HBx.out
    replace HBk : Hid (V4.heap[W0.heap.size]? = some (.cells #[.int .u64 k, .int .u64 0, .int .u64 0, .int .u64 0] 24 (0, 0))) := (hb.block _ (Array.getElem?_eq_some_iff.1 HBk.out).1).trans HBk.out
    replace HBp : Hid (V4.heap[V2.heap.size]? = some (.cells #[.int .u64 p0, .int .u64 p1, .int .u64 p2, .int .u64 p3] 24 (0, 0))) := (hb.block _ (Array.getElem?_eq_some_iff.1 HBp.out).1).trans HBp.out
    replace HBW : Hid (Below w.heap.size w V4) := HBW.out.trans (hb.mono HBW.out.size)
    clear hb
    clear cx0 cx1 cx2 cx3 hlx
    clear ck0 ck1 ck2 ck3 hlk
    have hdummy : True := trivial
    clear hdummy
    obtain ⟨cx0, cx1, cx2, cx3⟩ := cells4 HBx.out
    have hlx := (Array.getElem?_eq_some_iff.1 HBx.out).1
    have HXR : Hid (w.heap.size < V4.heap.size ∧ W0.heap.size < V4.heap.size) := ⟨lt_of_block HBx.out, lt_of_block HBk.out⟩
    go_wp2_with fail
    refine at_world_calls (fun V9 hU => ?_)
    have HBr : Hid (V9.heap[V4.heap.size]? = some (.cells #[.int .u64 r0, .int .u64 r1, .int .u64 r2, .int .u64 r3] 24 (0, 0))) := by
      show _ = _
      rw [hU]
      exact heap_new _ _
    have hb : Below V4.heap.size V4 V9 := by
      rw [hU]
      exact (Below.refl _ _).alloc (Nat.le_refl _) _
    clear hU
    clear cx0 cx1 cx2 cx3 hlx
    replace HBx : Hid (V9.heap[w.heap.size]? = some (.cells #[.int .u64 x0, .int .u64 x1, .int .u64 x2, .int .u64 x3] 24 (0, 0))) := (hb.block _ (Array.getElem?_eq_some_iff.1 HBx.out).1).trans HBx.out
    replace HBk : Hid (V9.heap[W0.heap.size]? = some (.cells #[.int .u64 k, .int .u64 0, .int .u64 0, .int .u64 0] 24 (0, 0))) := (hb.block _ (Array.getElem?_eq_some_iff.1 HBk.out).1).trans HBk.out
    replace HBp : Hid (V9.heap[V2.heap.size]? = some (.cells #[.int .u64 p0, .int .u64 p1, .int .u64 p2, .int .u64 p3] 24 (0, 0))) := (hb.block _ (Array.getElem?_eq_some_iff.1 HBp.out).1).trans HBp.out
    replace HBW : Hid (Below w.heap.size w V9) := HBW.out.trans (hb.mono HBW.out.size)
    clear hb
    refine (Ck9.out _).mono ?_
    rintro e V21 ⟨rfl, hb⟩
    replace HBx : Hid (V21.heap[w.heap.size]? = some (.cells #[.int .u64 x0, .int .u64 x1, .int .u64 x2, .int .u64 x3] 24 (0, 0))) := (hb.block _ (Array.getElem?_eq_some_iff.1 HBx.out).1).trans HBx.out
    replace HBk : Hid (V21.heap[W0.heap.size]? = some (.cells #[.int .u64 k, .int .u64 0, .int .u64 0, .int .u64 0] 24 (0, 0))) := (hb.block _ (Array.getElem?_eq_some_iff.1 HBk.out).1).trans HBk.out
    replace HBp : Hid (V21.heap[V2.heap.size]? = some (.cells #[.int .u64 p0, .int .u64 p1, .int .u64 p2, .int .u64 p3] 24 (0, 0))) := (hb.block _ (Array.getElem?_eq_some_iff.1 HBp.out).1).trans HBp.out
    replace HBr : Hid (V21.heap[V4.heap.size]? = some (.cells #[.int .u64 r0, .int .u64 r1, .int .u64 r2, .int .u64 r3] 24 (0, 0))) := (hb.block _ (Array.getElem?_eq_some_iff.1 HBr.out).1).trans HBr.out
    replace HBW : Hid (Below w.heap.size w V21) := HBW.out.trans (hb.mono HBW.out.size)
    clear hb
    go_wp2_with fail
    have hlx := lt_of_block HBx.out
    have hlk := lt_of_block HBk.out
    have hnx : w.heap.size ≠ V4.heap.size := by have := HXR.out; omega
    have hnk : W0.heap.size ≠ V4.heap.size := by have := HXR.out; omega
    refine wp_region_heldS (S := KeepR V21 (V4.heap.size)) (by kernel_rfl) (KeepR.init HBr.out) (fun hS => ?_)
    refine wpAnyH_takeL (i := 0) (v := ?_) rfl (by kernel_rfl) (by kernel_rfl) (by kernel_rfl) (fun _ _ _ h => h) (Or.inl ⟨by kernel_rfl, ?_⟩) hS ?_
    rotate_left
    · intro V hV
      obtain ⟨k0, k1, k2, k3⟩ := hV.cells HBk.out hnk
      go_simp
      (try with_reducible rfl)
    simp only [put_list, List.set_cons_succ, List.set_cons_zero]
    refine wpAnyH_takeL (i := 1) (v := ?_) rfl (by kernel_rfl) (by kernel_rfl) (by kernel_rfl) (fun _ _ _ h => h) (Or.inl ⟨by kernel_rfl, ?_⟩) hS ?_
    rotate_left
    · intro V hV
      obtain ⟨k0, k1, k2, k3⟩ := hV.cells HBx.out hnx
      go_simp
      (try with_reducible rfl)
    simp only [put_list, List.set_cons_succ, List.set_cons_zero]
    refine wpAnyH_ready (rs := [2]) (by kernel_rfl) (by simp) (AllReadyH.cons rfl (fun K hK => ?_) AllReadyH.nil)
    go_simp
    refine (Ck12.out _).mono ?_
    rintro e U1 ⟨rfl, hbc⟩
    refine hK.out _ _ (hS.call hbc) (fun hS => ?_)
    clear hK K hbc
    refine wpAnyH_ready (rs := [3]) (by kernel_rfl) (by simp) (AllReadyH.cons rfl (fun K hK => ?_) AllReadyH.nil)
    go_simp
    refine (Ck13.out _).mono ?_
    rintro e U2 ⟨rfl, hbc⟩
    refine hK.out _ _ (hS.call hbc) (fun hS => ?_)
    clear hK K hbc
    refine wpAnyH_ready (rs := [4]) (by kernel_rfl) (by simp) (AllReadyH.cons rfl (fun K hK => ?_) AllReadyH.nil)
    go_simp
    refine (Ck14.out _).mono ?_
    rintro e U3 ⟨rfl, hbc⟩
    refine hK.out _ _ (hS.call hbc) (fun hS => ?_)
    clear hK K hbc
    obtain ⟨t0, t1, t2, t3, ht⟩ := hS.res
    have hst := stored4 (z0 := .int .u64 u0) (z1 := .int .u64 u1) (z2 := .int .u64 u2) (z3 := .int .u64 u3) ht
    clear ht
    obtain ⟨v0, v1, v2, v3, j0, j1, j2, j3, jf⟩ := hS.room
    refine wpAnyH_ready (rs := [5]) (by kernel_rfl) (by simp) (AllReadyH.cons rfl (fun K hK => ?_) AllReadyH.nil)
    go_simp
    refine hK.out _ _ (hS.store _ _ _ _) (fun hS => ?_)
    clear hK K jf
    refine wpAnyH_done (by kernel_rfl) ?_ _
    go_wp2_with fail
    clear j0 j1 j2 j3
    refine at_world (fun V10 hU => ?_)
    rw [← hU] at hS hst
    clear hU
    replace HBx : Hid (V10.heap[w.heap.size]? = some (.cells #[.int .u64 x0, .int .u64 x1, .int .u64 x2, .int .u64 x3] 24 (0, 0))) := (hS.same _ hlx hnx).trans HBx.out
    replace HBk : Hid (V10.heap[W0.heap.size]? = some (.cells #[.int .u64 k, .int .u64 0, .int .u64 0, .int .u64 0] 24 (0, 0))) := (hS.same _ hlk hnk).trans HBk.out
    replace HBr : Hid (V10.heap[V4.heap.size]? = some (.cells #[.int .u64 u0, .int .u64 u1, .int .u64 u2, .int .u64 u3] 24 (0, 0))) := hst
    replace HBW : Hid (Below w.heap.size w V10) := HBW.out.trans (hS.below.mono (Nat.le_of_lt HXR.out.1))
    clear hS hst hlx hlk hnx hnk HBp
    obtain ⟨cx0, cx1, cx2, cx3⟩ := cells4 HBx.out
    have hlx := (Array.getElem?_eq_some_iff.1 HBx.out).1
    obtain ⟨ck0, ck1, ck2, ck3⟩ := cells4 HBk.out
    have hlk := (Array.getElem?_eq_some_iff.1 HBk.out).1
    obtain ⟨cr0, cr1, cr2, cr3⟩ := cells4 HBr.out
    have hlr := (Array.getElem?_eq_some_iff.1 HBr.out).1
    refine wp_region_heldS (S := fun V => Below V10.heap.size V10 V) (by kernel_rfl) (Below.refl _ _).drew (fun hS => ?_)
    refine wpAnyH_takeL (i := 0) (v := ?_) rfl (by kernel_rfl) (by kernel_rfl) (by kernel_rfl) (fun _ _ _ h => h) (Or.inl ⟨by kernel_rfl, ?_⟩) hS ?_
    rotate_left
    · intro V hV
      have k0 := (hV.cell (p := ⟨W0.heap.size, 0, none⟩) hlk).trans ck0
      have k1 := (hV.cell (p := ⟨W0.heap.size, 1, none⟩) hlk).trans ck1
      have k2 := (hV.cell (p := ⟨W0.heap.size, 2, none⟩) hlk).trans ck2
      have k3 := (hV.cell (p := ⟨W0.heap.size, 3, none⟩) hlk).trans ck3
      go_simp
      (try with_reducible rfl)
    simp only [put_list, List.set_cons_succ, List.set_cons_zero]
    refine wpAnyH_takeL (i := 1) (v := ?_) rfl (by kernel_rfl) (by kernel_rfl) (by kernel_rfl) (fun _ _ _ h => h) (Or.inl ⟨by kernel_rfl, ?_⟩) hS ?_
    rotate_left
    · intro V hV
      have k0 := (hV.cell (p := ⟨w.heap.size, 0, none⟩) hlx).trans cx0
      have k1 := (hV.cell (p := ⟨w.heap.size, 1, none⟩) hlx).trans cx1
      have k2 := (hV.cell (p := ⟨w.heap.size, 2, none⟩) hlx).trans cx2
      have k3 := (hV.cell (p := ⟨w.heap.size, 3, none⟩) hlx).trans cx3
      go_simp
      (try with_reducible rfl)
    simp only [put_list, List.set_cons_succ, List.set_cons_zero]
    refine wpAnyH_takeL (i := 3) (v := ?_) rfl (by kernel_rfl) (by kernel_rfl) (by kernel_rfl) (fun _ _ _ h => h) (Or.inl ⟨by kernel_rfl, ?_⟩) hS ?_
    rotate_left
    · intro V hV
      have k0 := (hV.cell (p := ⟨V4.heap.size, 0, none⟩) hlr).trans cr0
      have k1 := (hV.cell (p := ⟨V4.heap.size, 1, none⟩) hlr).trans cr1
      have k2 := (hV.cell (p := ⟨V4.heap.size, 2, none⟩) hlr).trans cr2
      have k3 := (hV.cell (p := ⟨V4.heap.size, 3, none⟩) hlr).trans cr3
      go_simp
      (try with_reducible rfl)
    simp only [put_list, List.set_cons_succ, List.set_cons_zero]
    refine wpAnyH_ready (rs := [2]) (by kernel_rfl) (by simp) (AllReadyH.cons rfl (fun K hK => ?_) AllReadyH.nil)
    go_simp
    refine (Ck10.out _).mono ?_
    rintro e U1 ⟨rfl, hbc⟩
    refine hK.out _ _ (hS.trans (hbc.mono hS.size)) (fun hS => ?_)
    clear hK K hbc
    refine wpAnyH_takeL (i := 4) (v := ?_) rfl (by kernel_rfl) (by kernel_rfl) (by kernel_rfl) (fun _ _ _ h => h) (Or.inl ⟨by kernel_rfl, ?_⟩) hS ?_
    rotate_left
    · intro V hV
      go_simp
      (try with_reducible rfl)
    simp only [put_list, List.set_cons_succ, List.set_cons_zero]
    refine wpAnyH_takeL (i := 5) (v := ?_) rfl (by kernel_rfl) (by kernel_rfl) (by kernel_rfl) (fun _ _ _ h => h) (Or.inl ⟨by kernel_rfl, ?_⟩) hS ?_
    rotate_left
    · intro V hV
      go_simp
      (try with_reducible rfl)
    simp only [put_list, List.set_cons_succ, List.set_cons_zero]
    refine wpAnyH_takeL (i := 6) (v := ?_) rfl (by kernel_rfl) (by kernel_rfl) (by kernel_rfl) (fun _ _ _ h => h) (Or.inl ⟨by kernel_rfl, ?_⟩) hS ?_
    rotate_left
    · intro V hV
      go_simp
      (try with_reducible rfl)
    simp only [put_list, List.set_cons_succ, List.set_cons_zero]
    refine wpAnyH_takeL (i := 7) (v := ?_) rfl (by kernel_rfl) (by kernel_rfl) (by kernel_rfl) (fun _ _ _ h => h) (Or.inl ⟨by kernel_rfl, ?_⟩) hS ?_
    rotate_left
    · intro V hV
      go_simp
      (try with_reducible rfl)
    simp only [put_list, List.set_cons_succ, List.set_cons_zero]
    refine wpAnyH_takeL (i := 8) (v := ?_) rfl (by kernel_rfl) (by kernel_rfl) (by kernel_rfl) (fun _ _ _ h => h) (Or.inl ⟨by kernel_rfl, ?_⟩) hS ?_
    rotate_left
    · intro V hV
      go_simp
      (try with_reducible rfl)
    simp only [put_list, List.set_cons_succ, List.set_cons_zero]
    refine wpAnyH_takeL (i := 9) (v := ?_) rfl (by kernel_rfl) (by kernel_rfl) (by kernel_rfl) (fun _ _ _ h => h) (Or.inl ⟨by kernel_rfl, ?_⟩) hS ?_
    rotate_left
    · intro V hV
      have k0 := (hV.cell (p := ⟨w.heap.size, 0, none⟩) hlx).trans cx0
      have k1 := (hV.cell (p := ⟨w.heap.size, 1, none⟩) hlx).trans cx1
      have k2 := (hV.cell (p := ⟨w.heap.size, 2, none⟩) hlx).trans cx2
      have k3 := (hV.cell (p := ⟨w.heap.size, 3, none⟩) hlx).trans cx3
      go_simp
      (try with_reducible rfl)
    simp only [put_list, List.set_cons_succ, List.set_cons_zero]
    refine wpAnyH_takeL (i := 11) (v := ?_) rfl (by kernel_rfl) (by kernel_rfl) (by kernel_rfl) (fun _ _ _ h => h) (Or.inl ⟨by kernel_rfl, ?_⟩) hS ?_
    rotate_left
    · intro V hV
      go_simp
      (try with_reducible rfl)
    simp only [put_list, List.set_cons_succ, List.set_cons_zero]
    refine wpAnyH_ready (rs := [10]) (by kernel_rfl) (by simp) (AllReadyH.cons rfl (fun K hK => ?_) AllReadyH.nil)
    go_simp
    refine (Ck11.out _).mono ?_
    rintro e U2 ⟨rfl, hbc⟩
    refine hK.out _ _ (hS.trans (hbc.mono hS.size)) (fun hS => ?_)
    clear hK K hbc
    refine wpAnyH_takeL (i := 12) (v := ?_) rfl (by kernel_rfl) (by kernel_rfl) (by kernel_rfl) (fun _ _ _ h => h) (Or.inl ⟨by kernel_rfl, ?_⟩) hS ?_
    rotate_left
    · intro V hV
      go_simp
      (try with_reducible rfl)
    simp only [put_list, List.set_cons_succ, List.set_cons_zero]
    refine wpAnyH_takeL (i := 13) (v := ?_) rfl (by kernel_rfl) (by kernel_rfl) (by kernel_rfl) (fun _ _ _ h => h) (Or.inl ⟨by kernel_rfl, ?_⟩) hS ?_
    rotate_left
    · intro V hV
      go_simp
      (try with_reducible rfl)
    simp only [put_list, List.set_cons_succ, List.set_cons_zero]
    refine wpAnyH_ready (rs := [14]) (by kernel_rfl) (by simp) (AllReadyH.cons rfl (fun K hK => ?_) AllReadyH.nil)
    go_simp
    refine hK.out _ _ hS (fun hS => ?_)
    clear hK K
    refine wpAnyH_done (by kernel_rfl) ?_ _
    go_wp2_with fail
    go_ret
    exact ⟨rfl, HBW.out.trans (hS.mono HBW.out.size)⟩
  · have hneg' : negB X = false := by simpa using hneg
    rw [hneg'] at Ck9
    have hru := sar_pos (k := k) hneg'
    rw [hr, hu] at hru
    simp only [Value.agg.injEq, Array.mk.injEq, List.cons.injEq, Value.int.injEq, true_and, and_true] at hru
    obtain ⟨e0, e1, e2, e3⟩ := hru
    subst e0 e1 e2 e3
    simp only [hx]
    clear hx hp hs hr hb ho hu hkw hmw htw hzw hk256 hkm hm64 hm hmm hk hn hneg hneg'
    go_enter Try.func13, Try.ntmps13
    go_wp2_with fail
    refine (CAW.out _).mono ?_
    rintro e W0 ⟨rfl, hb⟩
    have HBx : Hid (W0.heap[w.heap.size]? = some (.cells #[.int .u64 x0, .int .u64 x1, .int .u64 x2, .int .u64 x3] 24 (0, 0))) := (kept4 hb (heap_new _ _)).1
    have HBW : Hid (Below w.heap.size w W0) := ((Below.refl _ w).alloc (Nat.le_refl _) _).trans (hb.mono (by simp <;> omega))
    clear hb
    go_wp2_with fail
    refine at_world_calls (fun V1 hU => ?_)
    have HBk : Hid (V1.heap[W0.heap.size]? = some (.cells #[.int .u64 k, .int .u64 0, .int .u64 0, .int .u64 0] 24 (0, 0))) := by
      show _ = _
      rw [hU]
      exact heap_new _ _
    have hb : Below W0.heap.size W0 V1 := by
      rw [hU]
      exact (Below.refl _ _).alloc (Nat.le_refl _) _
    clear hU
    replace HBx : Hid (V1.heap[w.heap.size]? = some (.cells #[.int .u64 x0, .int .u64 x1, .int .u64 x2, .int .u64 x3] 24 (0, 0))) := (hb.block _ (Array.getElem?_eq_some_iff.1 HBx.out).1).trans HBx.out
    replace HBW : Hid (Below w.heap.size w V1) := HBW.out.trans (hb.mono HBW.out.size)
    clear hb
    refine (Ck1.out _).mono ?_
    rintro e V2 ⟨rfl, hb⟩
    replace HBx : Hid (V2.heap[w.heap.size]? = some (.cells #[.int .u64 x0, .int .u64 x1, .int .u64 x2, .int .u64 x3] 24 (0, 0))) := (hb.block _ (Array.getElem?_eq_some_iff.1 HBx.out).1).trans HBx.out
    replace HBk : Hid (V2.heap[W0.heap.size]? = some (.cells #[.int .u64 k, .int .u64 0, .int .u64 0, .int .u64 0] 24 (0, 0))) := (hb.block _ (Array.getElem?_eq_some_iff.1 HBk.out).1).trans HBk.out
    replace HBW : Hid (Below w.heap.size w V2) := HBW.out.trans (hb.mono HBW.out.size)
    clear hb
    go_wp2_with fail
    refine at_world (fun V3 hU => ?_)
    have HBp : Hid (V3.heap[V2.heap.size]? = some (.cells #[.int .u64 p0, .int .u64 p1, .int .u64 p2, .int .u64 p3] 24 (0, 0))) := by
      show _ = _
      rw [hU]
      exact heap_new _ _
    have hb : Below V2.heap.size V2 V3 := by
      rw [hU]
      exact (Below.refl _ _).alloc (Nat.le_refl _) _
    clear hU
    replace HBx : Hid (V3.heap[w.heap.size]? = some (.cells #[.int .u64 x0, .int .u64 x1, .int .u64 x2, .int .u64 x3] 24 (0, 0))) := (hb.block _ (Array.getElem?_eq_some_iff.1 HBx.out).1).trans HBx.out
    replace HBk : Hid (V3.heap[W0.heap.size]? = some (.cells #[.int .u64 k, .int .u64 0, .int .u64 0, .int .u64 0] 24 (0, 0))) := (hb.block _ (Array.getElem?_eq_some_iff.1 HBk.out).1).trans HBk.out
    replace HBW : Hid (Below w.heap.size w V3) := HBW.out.trans (hb.mono HBW.out.size)
    clear hb
    obtain ⟨cx0, cx1, cx2, cx3⟩ := cells4 HBx.out
    have hlx := (Array.getElem?_eq_some_iff.1 HBx.out).1
    obtain ⟨ck0, ck1, ck2, ck3⟩ := cells4 HBk.out
    have hlk := (Array.getElem?_eq_some_iff.1 HBk.out).1
    obtain ⟨cp0, cp1, cp2, cp3⟩ := cells4 HBp.out
    have hlp := (Array.getElem?_eq_some_iff.1 HBp.out).1
    refine wp_region_heldS (S := fun V => Below V3.heap.size V3 V) (by kernel_rfl) (Below.refl _ _).drew (fun hS => ?_)
    refine wpAnyH_takeL (i := 0) (v := ?_) rfl (by kernel_rfl) (by kernel_rfl) (by kernel_rfl) (fun _ _ _ h => h) (Or.inl ⟨by kernel_rfl, ?_⟩) hS ?_
    rotate_left
    · intro V hV
      have k0 := (hV.cell (p := ⟨W0.heap.size, 0, none⟩) hlk).trans ck0
      have k1 := (hV.cell (p := ⟨W0.heap.size, 1, none⟩) hlk).trans ck1
      have k2 := (hV.cell (p := ⟨W0.heap.size, 2, none⟩) hlk).trans ck2
      have k3 := (hV.cell (p := ⟨W0.heap.size, 3, none⟩) hlk).trans ck3
      go_simp
      (try with_reducible rfl)
    simp only [put_list, List.set_cons_succ, List.set_cons_zero]
    refine wpAnyH_takeL (i := 1) (v := ?_) rfl (by kernel_rfl) (by kernel_rfl) (by kernel_rfl) (fun _ _ _ h => h) (Or.inl ⟨by kernel_rfl, ?_⟩) hS ?_
    rotate_left
    · intro V hV
      have k0 := (hV.cell (p := ⟨w.heap.size, 0, none⟩) hlx).trans cx0
      have k1 := (hV.cell (p := ⟨w.heap.size, 1, none⟩) hlx).trans cx1
      have k2 := (hV.cell (p := ⟨w.heap.size, 2, none⟩) hlx).trans cx2
      have k3 := (hV.cell (p := ⟨w.heap.size, 3, none⟩) hlx).trans cx3
      go_simp
      (try with_reducible rfl)
    simp only [put_list, List.set_cons_succ, List.set_cons_zero]
    refine wpAnyH_takeL (i := 3) (v := ?_) rfl (by kernel_rfl) (by kernel_rfl) (by kernel_rfl) (fun _ _ _ h => h) (Or.inl ⟨by kernel_rfl, ?_⟩) hS ?_
    rotate_left
    · intro V hV
      have k0 := (hV.cell (p := ⟨w.heap.size, 0, none⟩) hlx).trans cx0
      have k1 := (hV.cell (p := ⟨w.heap.size, 1, none⟩) hlx).trans cx1
      have k2 := (hV.cell (p := ⟨w.heap.size, 2, none⟩) hlx).trans cx2
      have k3 := (hV.cell (p := ⟨w.heap.size, 3, none⟩) hlx).trans cx3
      go_simp
      (try with_reducible rfl)
    simp only [put_list, List.set_cons_succ, List.set_cons_zero]
    refine wpAnyH_takeL (i := 4) (v := ?_) rfl (by kernel_rfl) (by kernel_rfl) (by kernel_rfl) (fun _ _ _ h => h) (Or.inl ⟨by kernel_rfl, ?_⟩) hS ?_
    rotate_left
    · intro V hV
      have k0 := (hV.cell (p := ⟨V2.heap.size, 0, none⟩) hlp).trans cp0
      have k1 := (hV.cell (p := ⟨V2.heap.size, 1, none⟩) hlp).trans cp1
      have k2 := (hV.cell (p := ⟨V2.heap.size, 2, none⟩) hlp).trans cp2
      have k3 := (hV.cell (p := ⟨V2.heap.size, 3, none⟩) hlp).trans cp3
      go_simp
      (try with_reducible rfl)
    simp only [put_list, List.set_cons_succ, List.set_cons_zero]
    refine wpAnyH_ready (rs := [2]) (by kernel_rfl) (by simp) (AllReadyH.cons rfl (fun K hK => ?_) AllReadyH.nil)
    go_simp
    refine (Ck2.out _).mono ?_
    rintro e U1 ⟨rfl, hbc⟩
    refine hK.out _ _ (hS.trans (hbc.mono hS.size)) (fun hS => ?_)
    clear hK K hbc
    refine wpAnyH_ready (rs := [5]) (by kernel_rfl) (by simp) (AllReadyH.cons rfl (fun K hK => ?_) AllReadyH.nil)
    go_simp
    refine (Ck3.out _).mono ?_
    rintro e U2 ⟨rfl, hbc⟩
    refine hK.out _ _ (hS.trans (hbc.mono hS.size)) (fun hS => ?_)
    clear hK K hbc
    refine wpAnyH_takeL (i := 6) (v := ?_) rfl (by kernel_rfl) (by kernel_rfl) (by kernel_rfl) (fun _ _ _ h => h) (Or.inl ⟨by kernel_rfl, ?_⟩) hS ?_
    rotate_left
    · intro V hV
      go_simp
      (try with_reducible rfl)
    simp only [put_list, List.set_cons_succ, List.set_cons_zero]
    refine wpAnyH_takeL (i := 7) (v := ?_) rfl (by kernel_rfl) (by kernel_rfl) (by kernel_rfl) (fun _ _ _ h => h) (Or.inl ⟨by kernel_rfl, ?_⟩) hS ?_
    rotate_left
    · intro V hV
      go_simp
      (try with_reducible rfl)
    simp only [put_list, List.set_cons_succ, List.set_cons_zero]
    refine wpAnyH_takeL (i := 8) (v := ?_) rfl (by kernel_rfl) (by kernel_rfl) (by kernel_rfl) (fun _ _ _ h => h) (Or.inl ⟨by kernel_rfl, ?_⟩) hS ?_
    rotate_left
    · intro V hV
      have k0 := (hV.cell (p := ⟨W0.heap.size, 0, none⟩) hlk).trans ck0
      have k1 := (hV.cell (p := ⟨W0.heap.size, 1, none⟩) hlk).trans ck1
      have k2 := (hV.cell (p := ⟨W0.heap.size, 2, none⟩) hlk).trans ck2
      have k3 := (hV.cell (p := ⟨W0.heap.size, 3, none⟩) hlk).trans ck3
      go_simp
      (try with_reducible rfl)
    simp only [put_list, List.set_cons_succ, List.set_cons_zero]
    refine wpAnyH_takeL (i := 9) (v := ?_) rfl (by kernel_rfl) (by kernel_rfl) (by kernel_rfl) (fun _ _ _ h => h) (Or.inl ⟨by kernel_rfl, ?_⟩) hS ?_
    rotate_left
    · intro V hV
      have k0 := (hV.cell (p := ⟨w.heap.size, 0, none⟩) hlx).trans cx0
      have k1 := (hV.cell (p := ⟨w.heap.size, 1, none⟩) hlx).trans cx1
      have k2 := (hV.cell (p := ⟨w.heap.size, 2, none⟩) hlx).trans cx2
      have k3 := (hV.cell (p := ⟨w.heap.size, 3, none⟩) hlx).trans cx3
      go_simp
      (try with_reducible rfl)
    simp only [put_list, List.set_cons_succ, List.set_cons_zero]
    refine wpAnyH_takeL (i := 11) (v := ?_) rfl (by kernel_rfl) (by kernel_rfl) (by kernel_rfl) (fun _ _ _ h => h) (Or.inl ⟨by kernel_rfl, ?_⟩) hS ?_
    rotate_left
    · intro V hV
      have k0 := (hV.cell (p := ⟨w.heap.size, 0, none⟩) hlx).trans cx0
      have k1 := (hV.cell (p := ⟨w.heap.size, 1, none⟩) hlx).trans cx1
      have k2 := (hV.cell (p := ⟨w.heap.size, 2, none⟩) hlx).trans cx2
      have k3 := (hV.cell (p := ⟨w.heap.size, 3, none⟩) hlx).trans cx3
      go_simp
      (try with_reducible rfl)
    simp only [put_list, List.set_cons_succ, List.set_cons_zero]
    refine wpAnyH_takeL (i := 12) (v := ?_) rfl (by kernel_rfl) (by kernel_rfl) (by kernel_rfl) (fun _ _ _ h => h) (Or.inl ⟨by kernel_rfl, ?_⟩) hS ?_
    rotate_left
    · intro V hV
      have k0 := (hV.cell (p := ⟨V2.heap.size, 0, none⟩) hlp).trans cp0
      have k1 := (hV.cell (p := ⟨V2.heap.size, 1, none⟩) hlp).trans cp1
      have k2 := (hV.cell (p := ⟨V2.heap.size, 2, none⟩) hlp).trans cp2
      have k3 := (hV.cell (p := ⟨V2.heap.size, 3, none⟩) hlp).trans cp3
      go_simp
      (try with_reducible rfl)
    simp only [put_list, List.set_cons_succ, List.set_cons_zero]
    refine wpAnyH_ready (rs := [10]) (by kernel_rfl) (by simp) (AllReadyH.cons rfl (fun K hK => ?_) AllReadyH.nil)
    go_simp
    refine (Ck4.out _).mono ?_
    rintro e U3 ⟨rfl, hbc⟩
    refine hK.out _ _ (hS.trans (hbc.mono hS.size)) (fun hS => ?_)
    clear hK K hbc
    refine wpAnyH_ready (rs := [13]) (by kernel_rfl) (by simp) (AllReadyH.cons rfl (fun K hK => ?_) AllReadyH.nil)
    go_simp
    refine (Ck5.out _).mono ?_
    rintro e U4 ⟨rfl, hbc⟩
    refine hK.out _ _ (hS.trans (hbc.mono hS.size)) (fun hS => ?_)
    clear hK K hbc
    refine wpAnyH_takeL (i := 14) (v := ?_) rfl (by kernel_rfl) (by kernel_rfl) (by kernel_rfl) (fun _ _ _ h => h) (Or.inl ⟨by kernel_rfl, ?_⟩) hS ?_
    rotate_left
    · intro V hV
      go_simp
      (try with_reducible rfl)
    simp only [put_list, List.set_cons_succ, List.set_cons_zero]
    refine wpAnyH_takeL (i := 15) (v := ?_) rfl (by kernel_rfl) (by kernel_rfl) (by kernel_rfl) (fun _ _ _ h => h) (Or.inl ⟨by kernel_rfl, ?_⟩) hS ?_
    rotate_left
    · intro V hV
      go_simp
      (try with_reducible rfl)
    simp only [put_list, List.set_cons_succ, List.set_cons_zero]
    refine wpAnyH_takeL (i := 16) (v := ?_) rfl (by kernel_rfl) (by kernel_rfl) (by kernel_rfl) (fun _ _ _ h => h) (Or.inl ⟨by kernel_rfl, ?_⟩) hS ?_
    rotate_left
    · intro V hV
      go_simp
      (try with_reducible rfl)
    simp only [put_list, List.set_cons_succ, List.set_cons_zero]
    refine wpAnyH_takeL (i := 17) (v := ?_) rfl (by kernel_rfl) (by kernel_rfl) (by kernel_rfl) (fun _ _ _ h => h) (Or.inl ⟨by kernel_rfl, ?_⟩) hS ?_
    rotate_left
    · intro V hV
      have k0 := (hV.cell (p := ⟨W0.heap.size, 0, none⟩) hlk).trans ck0
      have k1 := (hV.cell (p := ⟨W0.heap.size, 1, none⟩) hlk).trans ck1
      have k2 := (hV.cell (p := ⟨W0.heap.size, 2, none⟩) hlk).trans ck2
      have k3 := (hV.cell (p := ⟨W0.heap.size, 3, none⟩) hlk).trans ck3
      go_simp
      (try with_reducible rfl)
    simp only [put_list, List.set_cons_succ, List.set_cons_zero]
    refine wpAnyH_takeL (i := 18) (v := ?_) rfl (by kernel_rfl) (by kernel_rfl) (by kernel_rfl) (fun _ _ _ h => h) (Or.inl ⟨by kernel_rfl, ?_⟩) hS ?_
    rotate_left
    · intro V hV
      have k0 := (hV.cell (p := ⟨W0.heap.size, 0, none⟩) hlk).trans ck0
      have k1 := (hV.cell (p := ⟨W0.heap.size, 1, none⟩) hlk).trans ck1
      have k2 := (hV.cell (p := ⟨W0.heap.size, 2, none⟩) hlk).trans ck2
      have k3 := (hV.cell (p := ⟨W0.heap.size, 3, none⟩) hlk).trans ck3
      go_simp
      (try with_reducible rfl)
    simp only [put_list, List.set_cons_succ, List.set_cons_zero]
    refine wpAnyH_takeL (i := 19) (v := ?_) rfl (by kernel_rfl) (by kernel_rfl) (by kernel_rfl) (fun _ _ _ h => h) (Or.inl ⟨by kernel_rfl, ?_⟩) hS ?_
    rotate_left
    · intro V hV
      have k0 := (hV.cell (p := ⟨w.heap.size, 0, none⟩) hlx).trans cx0
      have k1 := (hV.cell (p := ⟨w.heap.size, 1, none⟩) hlx).trans cx1
      have k2 := (hV.cell (p := ⟨w.heap.size, 2, none⟩) hlx).trans cx2
      have k3 := (hV.cell (p := ⟨w.heap.size, 3, none⟩) hlx).trans cx3
      go_simp
      (try with_reducible rfl)
    simp only [put_list, List.set_cons_succ, List.set_cons_zero]
    refine wpAnyH_takeL (i := 22) (v := ?_) rfl (by kernel_rfl) (by kernel_rfl) (by kernel_rfl) (fun _ _ _ h => h) (Or.inl ⟨by kernel_rfl, ?_⟩) hS ?_
    rotate_left
    · intro V hV
      have k0 := (hV.cell (p := ⟨w.heap.size, 0, none⟩) hlx).trans cx0
      have k1 := (hV.cell (p := ⟨w.heap.size, 1, none⟩) hlx).trans cx1
      have k2 := (hV.cell (p := ⟨w.heap.size, 2, none⟩) hlx).trans cx2
      have k3 := (hV.cell (p := ⟨w.heap.size, 3, none⟩) hlx).trans cx3
      go_simp
      (try with_reducible rfl)
    simp only [put_list, List.set_cons_succ, List.set_cons_zero]
    refine wpAnyH_takeL (i := 23) (v := ?_) rfl (by kernel_rfl) (by kernel_rfl) (by kernel_rfl) (fun _ _ _ h => h) (Or.inl ⟨by kernel_rfl, ?_⟩) hS ?_
    rotate_left
    · intro V hV
      have k0 := (hV.cell (p := ⟨w.heap.size, 0, none⟩) hlx).trans cx0
      have k1 := (hV.cell (p := ⟨w.heap.size, 1, none⟩) hlx).trans cx1
      have k2 := (hV.cell (p := ⟨w.heap.size, 2, none⟩) hlx).trans cx2
      have k3 := (hV.cell (p := ⟨w.heap.size, 3, none⟩) hlx).trans cx3
      go_simp
      (try with_reducible rfl)
    simp only [put_list, List.set_cons_succ, List.set_cons_zero]
    refine wpAnyH_takeL (i := 24) (v := ?_) rfl (by kernel_rfl) (by kernel_rfl) (by kernel_rfl) (fun _ _ _ h => h) (Or.inl ⟨by kernel_rfl, ?_⟩) hS ?_
    rotate_left
    · intro V hV
      have k0 := (hV.cell (p := ⟨V2.heap.size, 0, none⟩) hlp).trans cp0
      have k1 := (hV.cell (p := ⟨V2.heap.size, 1, none⟩) hlp).trans cp1
      have k2 := (hV.cell (p := ⟨V2.heap.size, 2, none⟩) hlp).trans cp2
      have k3 := (hV.cell (p := ⟨V2.heap.size, 3, none⟩) hlp).trans cp3
      go_simp
      (try with_reducible rfl)
    simp only [put_list, List.set_cons_succ, List.set_cons_zero]
    refine wpAnyH_ready (rs := [20]) (by kernel_rfl) (by simp) (AllReadyH.cons rfl (fun K hK => ?_) AllReadyH.nil)
    go_simp
    refine (Ck4.out _).mono ?_
    rintro e U5 ⟨rfl, hbc⟩
    refine hK.out _ _ (hS.trans (hbc.mono hS.size)) (fun hS => ?_)
    clear hK K hbc
    refine wpAnyH_ready (rs := [21]) (by kernel_rfl) (by simp) (AllReadyH.cons rfl (fun K hK => ?_) AllReadyH.nil)
    go_simp
    refine (Ck6.out _).mono ?_
    rintro e U6 ⟨rfl, hbc⟩
    refine hK.out _ _ (hS.trans (hbc.mono hS.size)) (fun hS => ?_)
    clear hK K hbc
    refine wpAnyH_ready (rs := [25]) (by kernel_rfl) (by simp) (AllReadyH.cons rfl (fun K hK => ?_) AllReadyH.nil)
    go_simp
    refine (Ck7.out _).mono ?_
    rintro e U7 ⟨rfl, hbc⟩
    refine hK.out _ _ (hS.trans (hbc.mono hS.size)) (fun hS => ?_)
    clear hK K hbc
    refine wpAnyH_ready (rs := [26]) (by kernel_rfl) (by simp) (AllReadyH.cons rfl (fun K hK => ?_) AllReadyH.nil)
    go_simp
    refine (Ck8.out _).mono ?_
    rintro e U8 ⟨rfl, hbc⟩
    refine hK.out _ _ (hS.trans (hbc.mono hS.size)) (fun hS => ?_)
    clear hK K hbc
    refine wpAnyH_takeL (i := 27) (v := ?_) rfl (by kernel_rfl) (by kernel_rfl) (by kernel_rfl) (fun _ _ _ h => h) (Or.inl ⟨by kernel_rfl, ?_⟩) hS ?_
    rotate_left
    · intro V hV
      go_simp
      (try with_reducible rfl)
    simp only [put_list, List.set_cons_succ, List.set_cons_zero]
    refine wpAnyH_takeL (i := 28) (v := ?_) rfl (by kernel_rfl) (by kernel_rfl) (by kernel_rfl) (fun _ _ _ h => h) (Or.inl ⟨by kernel_rfl, ?_⟩) hS ?_
    rotate_left
    · intro V hV
      go_simp
      (try with_reducible rfl)
    simp only [put_list, List.set_cons_succ, List.set_cons_zero]
    refine wpAnyH_done (by kernel_rfl) ?_ _
    clear cx0 cx1 cx2 cx3 hlx
    clear ck0 ck1 ck2 ck3 hlk
    clear cp0 cp1 cp2 cp3 hlp
    replace HBx : Hid (U8.heap[w.heap.size]? = some (.cells #[.int .u64 x0, .int .u64 x1, .int .u64 x2, .int .u64 x3] 24 (0, 0))) := (hS.block _ (Array.getElem?_eq_some_iff.1 HBx.out).1).trans HBx.out
    replace HBk : Hid (U8.heap[W0.heap.size]? = some (.cells #[.int .u64 k, .int .u64 0, .int .u64 0, .int .u64 0] 24 (0, 0))) := (hS.block _ (Array.getElem?_eq_some_iff.1 HBk.out).1).trans HBk.out
    replace HBp : Hid (U8.heap[V2.heap.size]? = some (.cells #[.int .u64 p0, .int .u64 p1, .int .u64 p2, .int .u64 p3] 24 (0, 0))) := (hS.block _ (Array.getElem?_eq_some_iff.1 HBp.out).1).trans HBp.out
    replace HBW : Hid (Below w.heap.size w U8) := HBW.out.trans (hS.mono HBW.out.size)
    clear hS
    obtain ⟨cx0, cx1, cx2, cx3⟩ := cells4 HBx.out
    have hlx := (Array.getElem?_eq_some_iff.1 HBx.out).1
    obtain ⟨ck0, ck1, ck2, ck3⟩ := cells4 HBk.out
    have hlk := (Array.getElem?_eq_some_iff.1 HBk.out).1
    go_wp2_with fail
    refine (Ck4.out _).mono ?_
    rintro e V4 ⟨rfl, hb⟩
    replace HBx : Hid (V4.heap[w.heap.size]? = some (.cells #[.int .u64 x0, .int .u64 x1, .int .u64 x2, .int .u64 x3] 24 (0, 0))) := (hb.block _ (Array.getElem?_eq_some_iff.1 HBx.out).1).trans HBx.out
    replace HBk : Hid (V4.heap[W0.heap.size]? = some (.cells #[.int .u64 k, .int .u64 0, .int .u64 0, .int .u64 0] 24 (0, 0))) := (hb.block _ (Array.getElem?_eq_some_iff.1 HBk.out).1).trans HBk.out
    replace HBp : Hid (V4.heap[V2.heap.size]? = some (.cells #[.int .u64 p0, .int .u64 p1, .int .u64 p2, .int .u64 p3] 24 (0, 0))) := (hb.block _ (Array.getElem?_eq_some_iff.1 HBp.out).1).trans HBp.out
    replace HBW : Hid (Below w.heap.size w V4) := HBW.out.trans (hb.mono HBW.out.size)
    clear hb
    clear cx0 cx1 cx2 cx3 hlx
    clear ck0 ck1 ck2 ck3 hlk
    have hdummy : True := trivial
    clear hdummy
    obtain ⟨cx0, cx1, cx2, cx3⟩ := cells4 HBx.out
    have hlx := (Array.getElem?_eq_some_iff.1 HBx.out).1
    have HXR : Hid (w.heap.size < V4.heap.size ∧ W0.heap.size < V4.heap.size) := ⟨lt_of_block HBx.out, lt_of_block HBk.out⟩
    go_wp2_with fail
    refine at_world_calls (fun V9 hU => ?_)
    have HBr : Hid (V9.heap[V4.heap.size]? = some (.cells #[.int .u64 r0, .int .u64 r1, .int .u64 r2, .int .u64 r3] 24 (0, 0))) := by
      show _ = _
      rw [hU]
      exact heap_new _ _
    have hb : Below V4.heap.size V4 V9 := by
      rw [hU]
      exact (Below.refl _ _).alloc (Nat.le_refl _) _
    clear hU
    clear cx0 cx1 cx2 cx3 hlx
    replace HBx : Hid (V9.heap[w.heap.size]? = some (.cells #[.int .u64 x0, .int .u64 x1, .int .u64 x2, .int .u64 x3] 24 (0, 0))) := (hb.block _ (Array.getElem?_eq_some_iff.1 HBx.out).1).trans HBx.out
    replace HBk : Hid (V9.heap[W0.heap.size]? = some (.cells #[.int .u64 k, .int .u64 0, .int .u64 0, .int .u64 0] 24 (0, 0))) := (hb.block _ (Array.getElem?_eq_some_iff.1 HBk.out).1).trans HBk.out
    replace HBp : Hid (V9.heap[V2.heap.size]? = some (.cells #[.int .u64 p0, .int .u64 p1, .int .u64 p2, .int .u64 p3] 24 (0, 0))) := (hb.block _ (Array.getElem?_eq_some_iff.1 HBp.out).1).trans HBp.out
    replace HBW : Hid (Below w.heap.size w V9) := HBW.out.trans (hb.mono HBW.out.size)
    clear hb
    refine (Ck9.out _).mono ?_
    rintro e V21 ⟨rfl, hb⟩
    replace HBx : Hid (V21.heap[w.heap.size]? = some (.cells #[.int .u64 x0, .int .u64 x1, .int .u64 x2, .int .u64 x3] 24 (0, 0))) := (hb.block _ (Array.getElem?_eq_some_iff.1 HBx.out).1).trans HBx.out
    replace HBk : Hid (V21.heap[W0.heap.size]? = some (.cells #[.int .u64 k, .int .u64 0, .int .u64 0, .int .u64 0] 24 (0, 0))) := (hb.block _ (Array.getElem?_eq_some_iff.1 HBk.out).1).trans HBk.out
    replace HBp : Hid (V21.heap[V2.heap.size]? = some (.cells #[.int .u64 p0, .int .u64 p1, .int .u64 p2, .int .u64 p3] 24 (0, 0))) := (hb.block _ (Array.getElem?_eq_some_iff.1 HBp.out).1).trans HBp.out
    replace HBr : Hid (V21.heap[V4.heap.size]? = some (.cells #[.int .u64 r0, .int .u64 r1, .int .u64 r2, .int .u64 r3] 24 (0, 0))) := (hb.block _ (Array.getElem?_eq_some_iff.1 HBr.out).1).trans HBr.out
    replace HBW : Hid (Below w.heap.size w V21) := HBW.out.trans (hb.mono HBW.out.size)
    clear hb
    go_wp2_with fail
    obtain ⟨cx0, cx1, cx2, cx3⟩ := cells4 HBx.out
    have hlx := (Array.getElem?_eq_some_iff.1 HBx.out).1
    obtain ⟨ck0, ck1, ck2, ck3⟩ := cells4 HBk.out
    have hlk := (Array.getElem?_eq_some_iff.1 HBk.out).1
    obtain ⟨cr0, cr1, cr2, cr3⟩ := cells4 HBr.out
    have hlr := (Array.getElem?_eq_some_iff.1 HBr.out).1
    refine wp_region_heldS (S := fun V => Below V21.heap.size V21 V) (by kernel_rfl) (Below.refl _ _).drew (fun hS => ?_)
    refine wpAnyH_takeL (i := 0) (v := ?_) rfl (by kernel_rfl) (by kernel_rfl) (by kernel_rfl) (fun _ _ _ h => h) (Or.inl ⟨by kernel_rfl, ?_⟩) hS ?_
    rotate_left
    · intro V hV
      have k0 := (hV.cell (p := ⟨W0.heap.size, 0, none⟩) hlk).trans ck0
      have k1 := (hV.cell (p := ⟨W0.heap.size, 1, none⟩) hlk).trans ck1
      have k2 := (hV.cell (p := ⟨W0.heap.size, 2, none⟩) hlk).trans ck2
      have k3 := (hV.cell (p := ⟨W0.heap.size, 3, none⟩) hlk).trans ck3
      go_simp
      (try with_reducible rfl)
    simp only [put_list, List.set_cons_succ, List.set_cons_zero]
    refine wpAnyH_takeL (i := 1) (v := ?_) rfl (by kernel_rfl) (by kernel_rfl) (by kernel_rfl) (fun _ _ _ h => h) (Or.inl ⟨by kernel_rfl, ?_⟩) hS ?_
    rotate_left
    · intro V hV
      have k0 := (hV.cell (p := ⟨w.heap.size, 0, none⟩) hlx).trans cx0
      have k1 := (hV.cell (p := ⟨w.heap.size, 1, none⟩) hlx).trans cx1
      have k2 := (hV.cell (p := ⟨w.heap.size, 2, none⟩) hlx).trans cx2
      have k3 := (hV.cell (p := ⟨w.heap.size, 3, none⟩) hlx).trans cx3
      go_simp
      (try with_reducible rfl)
    simp only [put_list, List.set_cons_succ, List.set_cons_zero]
    refine wpAnyH_takeL (i := 3) (v := ?_) rfl (by kernel_rfl) (by kernel_rfl) (by kernel_rfl) (fun _ _ _ h => h) (Or.inl ⟨by kernel_rfl, ?_⟩) hS ?_
    rotate_left
    · intro V hV
      have k0 := (hV.cell (p := ⟨V4.heap.size, 0, none⟩) hlr).trans cr0
      have k1 := (hV.cell (p := ⟨V4.heap.size, 1, none⟩) hlr).trans cr1
      have k2 := (hV.cell (p := ⟨V4.heap.size, 2, none⟩) hlr).trans cr2
      have k3 := (hV.cell (p := ⟨V4.heap.size, 3, none⟩) hlr).trans cr3
      go_simp
      (try with_reducible rfl)
    simp only [put_list, List.set_cons_succ, List.set_cons_zero]
    refine wpAnyH_ready (rs := [2]) (by kernel_rfl) (by simp) (AllReadyH.cons rfl (fun K hK => ?_) AllReadyH.nil)
    go_simp
    refine (Ck10.out _).mono ?_
    rintro e U1 ⟨rfl, hbc⟩
    refine hK.out _ _ (hS.trans (hbc.mono hS.size)) (fun hS => ?_)
    clear hK K hbc
    refine wpAnyH_takeL (i := 4) (v := ?_) rfl (by kernel_rfl) (by kernel_rfl) (by kernel_rfl) (fun _ _ _ h => h) (Or.inl ⟨by kernel_rfl, ?_⟩) hS ?_
    rotate_left
    · intro V hV
      go_simp
      (try with_reducible rfl)
    simp only [put_list, List.set_cons_succ, List.set_cons_zero]
    refine wpAnyH_takeL (i := 5) (v := ?_) rfl (by kernel_rfl) (by kernel_rfl) (by kernel_rfl) (fun _ _ _ h => h) (Or.inl ⟨by kernel_rfl, ?_⟩) hS ?_
    rotate_left
    · intro V hV
      go_simp
      (try with_reducible rfl)
    simp only [put_list, List.set_cons_succ, List.set_cons_zero]
    refine wpAnyH_takeL (i := 6) (v := ?_) rfl (by kernel_rfl) (by kernel_rfl) (by kernel_rfl) (fun _ _ _ h => h) (Or.inl ⟨by kernel_rfl, ?_⟩) hS ?_
    rotate_left
    · intro V hV
      go_simp
      (try with_reducible rfl)
    simp only [put_list, List.set_cons_succ, List.set_cons_zero]
    refine wpAnyH_takeL (i := 7) (v := ?_) rfl (by kernel_rfl) (by kernel_rfl) (by kernel_rfl) (fun _ _ _ h => h) (Or.inl ⟨by kernel_rfl, ?_⟩) hS ?_
    rotate_left
    · intro V hV
      go_simp
      (try with_reducible rfl)
    simp only [put_list, List.set_cons_succ, List.set_cons_zero]
    refine wpAnyH_takeL (i := 8) (v := ?_) rfl (by kernel_rfl) (by kernel_rfl) (by kernel_rfl) (fun _ _ _ h => h) (Or.inl ⟨by kernel_rfl, ?_⟩) hS ?_
    rotate_left
    · intro V hV
      go_simp
      (try with_reducible rfl)
    simp only [put_list, List.set_cons_succ, List.set_cons_zero]
    refine wpAnyH_takeL (i := 9) (v := ?_) rfl (by kernel_rfl) (by kernel_rfl) (by kernel_rfl) (fun _ _ _ h => h) (Or.inl ⟨by kernel_rfl, ?_⟩) hS ?_
    rotate_left
    · intro V hV
      have k0 := (hV.cell (p := ⟨w.heap.size, 0, none⟩) hlx).trans cx0
      have k1 := (hV.cell (p := ⟨w.heap.size, 1, none⟩) hlx).trans cx1
      have k2 := (hV.cell (p := ⟨w.heap.size, 2, none⟩) hlx).trans cx2
      have k3 := (hV.cell (p := ⟨w.heap.size, 3, none⟩) hlx).trans cx3
      go_simp
      (try with_reducible rfl)
    simp only [put_list, List.set_cons_succ, List.set_cons_zero]
    refine wpAnyH_takeL (i := 11) (v := ?_) rfl (by kernel_rfl) (by kernel_rfl) (by kernel_rfl) (fun _ _ _ h => h) (Or.inl ⟨by kernel_rfl, ?_⟩) hS ?_
    rotate_left
    · intro V hV
      go_simp
      (try with_reducible rfl)
    simp only [put_list, List.set_cons_succ, List.set_cons_zero]
    refine wpAnyH_ready (rs := [10]) (by kernel_rfl) (by simp) (AllReadyH.cons rfl (fun K hK => ?_) AllReadyH.nil)
    go_simp
    refine (Ck11.out _).mono ?_
    rintro e U2 ⟨rfl, hbc⟩
    refine hK.out _ _ (hS.trans (hbc.mono hS.size)) (fun hS => ?_)
    clear hK K hbc
    refine wpAnyH_takeL (i := 12) (v := ?_) rfl (by kernel_rfl) (by kernel_rfl) (by kernel_rfl) (fun _ _ _ h => h) (Or.inl ⟨by kernel_rfl, ?_⟩) hS ?_
    rotate_left
    · intro V hV
      go_simp
      (try with_reducible rfl)
    simp only [put_list, List.set_cons_succ, List.set_cons_zero]
    refine wpAnyH_takeL (i := 13) (v := ?_) rfl (by kernel_rfl) (by kernel_rfl) (by kernel_rfl) (fun _ _ _ h => h) (Or.inl ⟨by kernel_rfl, ?_⟩) hS ?_
    rotate_left
    · intro V hV
      go_simp
      (try with_reducible rfl)
    simp only [put_list, List.set_cons_succ, List.set_cons_zero]
    refine wpAnyH_ready (rs := [14]) (by kernel_rfl) (by simp) (AllReadyH.cons rfl (fun K hK => ?_) AllReadyH.nil)
    go_simp
    refine hK.out _ _ hS (fun hS => ?_)
    clear hK K
    refine wpAnyH_done (by kernel_rfl) ?_ _
    go_wp2_with fail
    go_ret
    exact ⟨rfl, HBW.out.trans (hS.mono HBW.out.size)⟩

end Go.Proofs.Ytpnijncoldihfaa
