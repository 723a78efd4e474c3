/-
  Exponents add up: the walk of the law.
-/
import Derived.Test.YtpnijncoldihfaaRing
import Derived.Test.YtpnijncoldihfaaShift
import Derived.Test.YtpnijncoldihfaaTake
namespace Go.Proofs.Ytpnijncoldihfaa
open Go.RowKit Go.Shelf

theorem at_world_calls {P : Program} {f : FuncId} {args : Array Value} {w : World} {Q : Ending → World → Prop} (h : ∀ W0, W0 = w → Calls P f args W0 Q) : Calls P f args w Q := h w rfl

theorem exp_sum (X Y Z : Nat) : wv (X ^ (Y % M256) * X ^ (Z % M256)) = wv (X ^ (Y % M256 + Z % M256)) := by rw [Nat.pow_add]

theorem exp_half (X Y : Nat) : wv ((X * X) ^ (Y % M256 / 2 % M256)) = wv (X ^ (Y % M256 / 2 * 2 % M256)) := by
  have hy : Y % M256 < M256 := Nat.mod_lt _ M256_pos
  rw [Nat.mod_eq_of_lt (show Y % M256 / 2 < M256 by omega), Nat.mod_eq_of_lt (show Y % M256 / 2 * 2 < M256 by omega), Nat.mul_comm (Y % M256 / 2) 2, Nat.pow_mul, Nat.pow_two]

theorem carry_no (X Y : Nat) (h : X % M256 + Y % M256 < M256) (w : World) : Calls Try.prog 16 #[wv X, wv Y] w fun e w' => e = .returned (.tuple #[wv (X % M256 + Y % M256), .bool false]) ∧ Below w.heap.size w w' := by
  refine (carry_any w X Y).mono ?_
  rintro e w1 ⟨c, rfl, hc, hs, hb⟩
  refine ⟨?_, hb⟩
  have hc0 : c = 0 := by
    rcases (show c = 0 ∨ c = 1 by omega) with h0 | h1
    · exact h0
    · subst h1; omega
  subst hc0
  rw [show wv (X % M256 + Y % M256) = wv (X + Y) from wv_congr (by rw [← Nat.add_mod])]
  simp

theorem carry_yes (X Y : Nat) (h : M256 ≤ X % M256 + Y % M256) (w : World) : Calls Try.prog 16 #[wv X, wv Y] w fun e w' => e = .returned (.tuple #[wv (X + Y), .bool true]) ∧ Below w.heap.size w w' := by
  refine (carry_any w X Y).mono ?_
  rintro e w1 ⟨c, rfl, hc, hs, hb⟩
  refine ⟨?_, hb⟩
  have hc0 : c = 1 := by
    rcases (show c = 0 ∨ c = 1 by omega) with h0 | h1
    · subst h0
      have := Nat.mod_lt (X + Y) M256_pos
      omega
    · exact h1
  subst hc0
  simp

set_option maxHeartbeats 8000000 in
set_option maxRecDepth 100000 in
theorem exponents_calls (X Y Z : Nat) (w : World) : Calls Try.prog 12 #[wv X, wv Y, wv Z] w fun e w' => e = .returned (.bool true) ∧ Below w.heap.size w w' := by
  rcases Nat.lt_or_ge (Y % M256 + Z % M256) M256 with hc | hc
  · obtain ⟨x0, x1, x2, x3, hx⟩ := wv_form X
    obtain ⟨y0, y1, y2, y3, hy⟩ := wv_form Y
    obtain ⟨z0, z1, z2, z3, hz⟩ := wv_form Z
    obtain ⟨p0, p1, p2, p3, hp⟩ := wv_form (X ^ (Y % M256))
    obtain ⟨q0, q1, q2, q3, hq⟩ := wv_form (X ^ (Z % M256))
    obtain ⟨h0, h1, h2, h3, hh⟩ := wv_form (Y % M256 / 2)
    obtain ⟨d0, d1, d2, d3, hd⟩ := wv_form (Y % M256 / 2 * 2)
    obtain ⟨f0, f1, f2, f3, hf⟩ := wv_form (X ^ (Y % M256 / 2 * 2 % M256))
    obtain ⟨m0, m1, m2, m3, hm⟩ := wv_form (X * X)
    have hi : wv 1 = .agg #[.int .u64 1, .int .u64 0, .int .u64 0, .int .u64 0] := rfl
    have ho : wv 0 = .agg #[.int .u64 0, .int .u64 0, .int .u64 0, .int .u64 0] := rfl
    obtain ⟨s0, s1, s2, s3, hs⟩ := wv_form (Y % M256 + Z % M256)
    obtain ⟨r0, r1, r2, r3, hr⟩ := wv_form (X ^ (Y % M256 + Z % M256))
    have k1 := fun W => carry_no Y Z hc W
    simp only [hy, hz, hs] at k1
    have Ck1 := hideP k1
    clear k1
    have k2 := fun W => exp_any X (Y % M256 + Z % M256) W
    simp only [Nat.mod_eq_of_lt hc] at k2
    simp only [hx, hs, hr] at k2
    have Ck2 := hideP k2
    clear k2
    have k3 := fun W => exp_any X Y W
    simp only [hx, hy, hp] at k3
    have Ck3 := hideP k3
    clear k3
    have k4 := fun W => exp_any X Z W
    simp only [hx, hz, hq] at k4
    have Ck4 := hideP k4
    clear k4
    have k5 := fun W => mul_any (X ^ (Y % M256)) (X ^ (Z % M256)) W
    simp only [exp_sum] at k5
    simp only [hp, hq, hr] at k5
    have Ck5 := hideP k5
    clear k5
    have k6 := fun W => one_any W
    simp only [hi] at k6
    have Ck6 := hideP k6
    clear k6
    have k7 := fun W => shr_in 1 Y (by decide) W
    simp only [show (1 : Nat) % M256 = 1 from rfl, Nat.pow_one] at k7
    simp only [hi, hy, hh] at k7
    have Ck7 := hideP k7
    clear k7
    have k8 := fun W => shl_in 1 (Y % M256 / 2) (by decide) W
    simp only [show (1 : Nat) % M256 = 1 from rfl, Nat.pow_one] at k8
    simp only [hi, hh, hd] at k8
    have Ck8 := hideP k8
    clear k8
    have k9 := fun W => exp_any X (Y % M256 / 2 * 2) W
    simp only [hx, hd, hf] at k9
    have Ck9 := hideP k9
    clear k9
    have k10 := fun W => mul_any X X W
    simp only [hx, hm] at k10
    have Ck10 := hideP k10
    clear k10
    have k11 := fun W => exp_any (X * X) (Y % M256 / 2) W
    simp only [exp_half] at k11
    simp only [hm, hh, hf] at k11
    have Ck11 := hideP k11
    clear k11
    have k12 := fun W => exp_any X 0 W
    simp only [Nat.zero_mod, Nat.pow_zero] at k12
    simp only [hx, ho, hi] at k12
    have Ck12 := hideP k12
    clear k12
    have k13 := fun W => exp_any X 1 W
    simp only [show (1 : Nat) % M256 = 1 from rfl, Nat.pow_one] at k13
    simp only [hx, hi] at k13
    have Ck13 := hideP k13
    clear k13
    have CAW := hideP (fun W => awake_any W)
    have eqw := eq_words
    simp only [hx, hy, hz]
    clear hc hx hy hz hp hq hh hd hf hm hi hs hr ho
    go_enter Try.func12, Try.ntmps12
    go_wp2_with fail
    refine (CAW.out _).mono ?_
    rintro e W0 ⟨rfl, hb⟩
    have HBx : Hid (W0.heap[w.heap.size]? = some (.cells #[.int .u64 x0, .int .u64 x1, .int .u64 x2, .int .u64 x3] 24 (0, 0))) := (kept4 hb ((heap_old _ _ (by simp <;> omega)).trans ((heap_old _ _ (by simp <;> omega)).trans (heap_new _ _)))).1
    have HBy : Hid (W0.heap[w.heap.size + 1]? = some (.cells #[.int .u64 y0, .int .u64 y1, .int .u64 y2, .int .u64 y3] 24 (0, 0))) := (kept4 hb ((heap_old _ _ (by simp <;> omega)).trans (heap_new1 _ _ _))).1
    have HBz : Hid (W0.heap[w.heap.size + 1 + 1]? = some (.cells #[.int .u64 z0, .int .u64 z1, .int .u64 z2, .int .u64 z3] 24 (0, 0))) := (kept4 hb (heap_new2 _ _ _ _)).1
    have HBW : Hid (Below w.heap.size w W0) := ((((Below.refl _ w).alloc (Nat.le_refl _) _).alloc (by simp <;> omega) _).alloc (by simp <;> omega) _).trans (hb.mono (by simp <;> omega))
    clear hb
    obtain ⟨cy0, cy1, cy2, cy3⟩ := cells4 HBy.out
    have hly := (Array.getElem?_eq_some_iff.1 HBy.out).1
    obtain ⟨cz0, cz1, cz2, cz3⟩ := cells4 HBz.out
    have hlz := (Array.getElem?_eq_some_iff.1 HBz.out).1
    go_wp2_with fail
    refine (Ck1.out _).mono ?_
    rintro e V1 ⟨rfl, hb⟩
    replace HBx : Hid (V1.heap[w.heap.size]? = some (.cells #[.int .u64 x0, .int .u64 x1, .int .u64 x2, .int .u64 x3] 24 (0, 0))) := (hb.block _ (Array.getElem?_eq_some_iff.1 HBx.out).1).trans HBx.out
    replace HBy : Hid (V1.heap[w.heap.size + 1]? = some (.cells #[.int .u64 y0, .int .u64 y1, .int .u64 y2, .int .u64 y3] 24 (0, 0))) := (hb.block _ (Array.getElem?_eq_some_iff.1 HBy.out).1).trans HBy.out
    replace HBz : Hid (V1.heap[w.heap.size + 1 + 1]? = some (.cells #[.int .u64 z0, .int .u64 z1, .int .u64 z2, .int .u64 z3] 24 (0, 0))) := (hb.block _ (Array.getElem?_eq_some_iff.1 HBz.out).1).trans HBz.out
    replace HBW : Hid (Below w.heap.size w V1) := HBW.out.trans (hb.mono HBW.out.size)
    clear hb
    clear cy0 cy1 cy2 cy3 hly
    clear cz0 cz1 cz2 cz3 hlz
    go_wp2_with fail
    refine at_world (fun V2 hU => ?_)
    have HBs : Hid (V2.heap[V1.heap.size]? = some (.cells #[.int .u64 s0, .int .u64 s1, .int .u64 s2, .int .u64 s3] 24 (0, 0))) := by
      show _ = _
      rw [hU]
      exact heap_new _ _
    have hb : Below V1.heap.size V1 V2 := by
      rw [hU]
      exact (Below.refl _ _).alloc (Nat.le_refl _) _
    clear hU
    replace HBx : Hid (V2.heap[w.heap.size]? = some (.cells #[.int .u64 x0, .int .u64 x1, .int .u64 x2, .int .u64 x3] 24 (0, 0))) := (hb.block _ (Array.getElem?_eq_some_iff.1 HBx.out).1).trans HBx.out
    replace HBy : Hid (V2.heap[w.heap.size + 1]? = some (.cells #[.int .u64 y0, .int .u64 y1, .int .u64 y2, .int .u64 y3] 24 (0, 0))) := (hb.block _ (Array.getElem?_eq_some_iff.1 HBy.out).1).trans HBy.out
    replace HBz : Hid (V2.heap[w.heap.size + 1 + 1]? = some (.cells #[.int .u64 z0, .int .u64 z1, .int .u64 z2, .int .u64 z3] 24 (0, 0))) := (hb.block _ (Array.getElem?_eq_some_iff.1 HBz.out).1).trans HBz.out
    replace HBW : Hid (Below w.heap.size w V2) := HBW.out.trans (hb.mono HBW.out.size)
    clear hb
    obtain ⟨cx0, cx1, cx2, cx3⟩ := cells4 HBx.out
    have hlx := (Array.getElem?_eq_some_iff.1 HBx.out).1
    obtain ⟨cy0, cy1, cy2, cy3⟩ := cells4 HBy.out
    have hly := (Array.getElem?_eq_some_iff.1 HBy.out).1
    obtain ⟨cz0, cz1, cz2, cz3⟩ := cells4 HBz.out
    have hlz := (Array.getElem?_eq_some_iff.1 HBz.out).1
    obtain ⟨cs0, cs1, cs2, cs3⟩ := cells4 HBs.out
    have hls := (Array.getElem?_eq_some_iff.1 HBs.out).1
    refine wp_region_heldS (S := fun V => Below V2.heap.size V2 V) (by kernel_rfl) (Below.refl _ _).drew (fun hS => ?_)
    refine wpAnyH_takeL (i := 0) (v := ?_) rfl (by kernel_rfl) (by kernel_rfl) (by kernel_rfl) (fun _ _ _ h => h) (Or.inl ⟨by kernel_rfl, ?_⟩) hS ?_
    rotate_left
    · intro V hV
      go_simp
      (try with_reducible rfl)
    simp only [put_list, List.set_cons_succ, List.set_cons_zero]
    refine wpAnyH_takeL (i := 1) (v := ?_) rfl (by kernel_rfl) (by kernel_rfl) (by kernel_rfl) (fun _ _ _ h => h) (Or.inl ⟨by kernel_rfl, ?_⟩) hS ?_
    rotate_left
    · intro V hV
      go_simp
      (try with_reducible rfl)
    simp only [put_list, List.set_cons_succ, List.set_cons_zero]
    refine wpAnyH_takeL (i := 2) (v := ?_) rfl (by kernel_rfl) (by kernel_rfl) (by kernel_rfl) (fun _ _ _ h => h) (Or.inl ⟨by kernel_rfl, ?_⟩) hS ?_
    rotate_left
    · intro V hV
      go_simp
      (try with_reducible rfl)
    simp only [put_list, List.set_cons_succ, List.set_cons_zero]
    refine wpAnyH_takeL (i := 3) (v := ?_) rfl (by kernel_rfl) (by kernel_rfl) (by kernel_rfl) (fun _ _ _ h => h) (Or.inl ⟨by kernel_rfl, ?_⟩) hS ?_
    rotate_left
    · intro V hV
      have k0 := (hV.cell (p := ⟨w.heap.size, 0, none⟩) hlx).trans cx0
      have k1 := (hV.cell (p := ⟨w.heap.size, 1, none⟩) hlx).trans cx1
      have k2 := (hV.cell (p := ⟨w.heap.size, 2, none⟩) hlx).trans cx2
      have k3 := (hV.cell (p := ⟨w.heap.size, 3, none⟩) hlx).trans cx3
      go_simp
      (try with_reducible rfl)
    simp only [put_list, List.set_cons_succ, List.set_cons_zero]
    refine wpAnyH_takeL (i := 4) (v := ?_) rfl (by kernel_rfl) (by kernel_rfl) (by kernel_rfl) (fun _ _ _ h => h) (Or.inl ⟨by kernel_rfl, ?_⟩) hS ?_
    rotate_left
    · intro V hV
      have k0 := (hV.cell (p := ⟨V1.heap.size, 0, none⟩) hls).trans cs0
      have k1 := (hV.cell (p := ⟨V1.heap.size, 1, none⟩) hls).trans cs1
      have k2 := (hV.cell (p := ⟨V1.heap.size, 2, none⟩) hls).trans cs2
      have k3 := (hV.cell (p := ⟨V1.heap.size, 3, none⟩) hls).trans cs3
      go_simp
      (try with_reducible rfl)
    simp only [put_list, List.set_cons_succ, List.set_cons_zero]
    refine wpAnyH_takeL (i := 6) (v := ?_) rfl (by kernel_rfl) (by kernel_rfl) (by kernel_rfl) (fun _ _ _ h => h) (Or.inl ⟨by kernel_rfl, ?_⟩) hS ?_
    rotate_left
    · intro V hV
      have k0 := (hV.cell (p := ⟨w.heap.size, 0, none⟩) hlx).trans cx0
      have k1 := (hV.cell (p := ⟨w.heap.size, 1, none⟩) hlx).trans cx1
      have k2 := (hV.cell (p := ⟨w.heap.size, 2, none⟩) hlx).trans cx2
      have k3 := (hV.cell (p := ⟨w.heap.size, 3, none⟩) hlx).trans cx3
      go_simp
      (try with_reducible rfl)
    simp only [put_list, List.set_cons_succ, List.set_cons_zero]
    refine wpAnyH_takeL (i := 7) (v := ?_) rfl (by kernel_rfl) (by kernel_rfl) (by kernel_rfl) (fun _ _ _ h => h) (Or.inl ⟨by kernel_rfl, ?_⟩) hS ?_
    rotate_left
    · intro V hV
      have k0 := (hV.cell (p := ⟨w.heap.size + 1, 0, none⟩) hly).trans cy0
      have k1 := (hV.cell (p := ⟨w.heap.size + 1, 1, none⟩) hly).trans cy1
      have k2 := (hV.cell (p := ⟨w.heap.size + 1, 2, none⟩) hly).trans cy2
      have k3 := (hV.cell (p := ⟨w.heap.size + 1, 3, none⟩) hly).trans cy3
      go_simp
      (try with_reducible rfl)
    simp only [put_list, List.set_cons_succ, List.set_cons_zero]
    refine wpAnyH_takeL (i := 9) (v := ?_) rfl (by kernel_rfl) (by kernel_rfl) (by kernel_rfl) (fun _ _ _ h => h) (Or.inl ⟨by kernel_rfl, ?_⟩) hS ?_
    rotate_left
    · intro V hV
      have k0 := (hV.cell (p := ⟨w.heap.size, 0, none⟩) hlx).trans cx0
      have k1 := (hV.cell (p := ⟨w.heap.size, 1, none⟩) hlx).trans cx1
      have k2 := (hV.cell (p := ⟨w.heap.size, 2, none⟩) hlx).trans cx2
      have k3 := (hV.cell (p := ⟨w.heap.size, 3, none⟩) hlx).trans cx3
      go_simp
      (try with_reducible rfl)
    simp only [put_list, List.set_cons_succ, List.set_cons_zero]
    refine wpAnyH_takeL (i := 10) (v := ?_) rfl (by kernel_rfl) (by kernel_rfl) (by kernel_rfl) (fun _ _ _ h => h) (Or.inl ⟨by kernel_rfl, ?_⟩) hS ?_
    rotate_left
    · intro V hV
      have k0 := (hV.cell (p := ⟨w.heap.size + 1 + 1, 0, none⟩) hlz).trans cz0
      have k1 := (hV.cell (p := ⟨w.heap.size + 1 + 1, 1, none⟩) hlz).trans cz1
      have k2 := (hV.cell (p := ⟨w.heap.size + 1 + 1, 2, none⟩) hlz).trans cz2
      have k3 := (hV.cell (p := ⟨w.heap.size + 1 + 1, 3, none⟩) hlz).trans cz3
      go_simp
      (try with_reducible rfl)
    simp only [put_list, List.set_cons_succ, List.set_cons_zero]
    refine wpAnyH_ready (rs := [5]) (by kernel_rfl) (by simp) (AllReadyH.cons rfl (fun K hK => ?_) AllReadyH.nil)
    go_simp
    refine (Ck2.out _).mono ?_
    rintro e U1 ⟨rfl, hbc⟩
    refine hK.out _ _ (hS.trans (hbc.mono hS.size)) (fun hS => ?_)
    clear hK K hbc
    refine wpAnyH_ready (rs := [8]) (by kernel_rfl) (by simp) (AllReadyH.cons rfl (fun K hK => ?_) AllReadyH.nil)
    go_simp
    refine (Ck3.out _).mono ?_
    rintro e U2 ⟨rfl, hbc⟩
    refine hK.out _ _ (hS.trans (hbc.mono hS.size)) (fun hS => ?_)
    clear hK K hbc
    refine wpAnyH_ready (rs := [11]) (by kernel_rfl) (by simp) (AllReadyH.cons rfl (fun K hK => ?_) AllReadyH.nil)
    go_simp
    refine (Ck4.out _).mono ?_
    rintro e U3 ⟨rfl, hbc⟩
    refine hK.out _ _ (hS.trans (hbc.mono hS.size)) (fun hS => ?_)
    clear hK K hbc
    refine wpAnyH_ready (rs := [12]) (by kernel_rfl) (by simp) (AllReadyH.cons rfl (fun K hK => ?_) AllReadyH.nil)
    go_simp
    refine (Ck5.out _).mono ?_
    rintro e U4 ⟨rfl, hbc⟩
    refine hK.out _ _ (hS.trans (hbc.mono hS.size)) (fun hS => ?_)
    clear hK K hbc
    refine wpAnyH_takeL (i := 13) (v := ?_) rfl (by kernel_rfl) (by kernel_rfl) (by kernel_rfl) (fun _ _ _ h => h) (Or.inl ⟨by kernel_rfl, ?_⟩) hS ?_
    rotate_left
    · intro V hV
      go_simp
      (try with_reducible rfl)
    simp only [put_list, List.set_cons_succ, List.set_cons_zero]
    refine wpAnyH_takeL (i := 14) (v := ?_) rfl (by kernel_rfl) (by kernel_rfl) (by kernel_rfl) (fun _ _ _ h => h) (Or.inl ⟨by kernel_rfl, ?_⟩) hS ?_
    rotate_left
    · intro V hV
      go_simp
      (try with_reducible rfl)
    simp only [put_list, List.set_cons_succ, List.set_cons_zero]
    refine wpAnyH_done (by kernel_rfl) ?_ _
    go_wp2_with fail
    clear cx0 cx1 cx2 cx3 hlx
    clear cy0 cy1 cy2 cy3 hly
    clear cz0 cz1 cz2 cz3 hlz
    clear cs0 cs1 cs2 cs3 hls
    replace HBx : Hid (U4.heap[w.heap.size]? = some (.cells #[.int .u64 x0, .int .u64 x1, .int .u64 x2, .int .u64 x3] 24 (0, 0))) := (hS.block _ (Array.getElem?_eq_some_iff.1 HBx.out).1).trans HBx.out
    replace HBy : Hid (U4.heap[w.heap.size + 1]? = some (.cells #[.int .u64 y0, .int .u64 y1, .int .u64 y2, .int .u64 y3] 24 (0, 0))) := (hS.block _ (Array.getElem?_eq_some_iff.1 HBy.out).1).trans HBy.out
    replace HBW : Hid (Below w.heap.size w U4) := HBW.out.trans (hS.mono HBW.out.size)
    clear hS HBz HBs
    obtain ⟨cx0, cx1, cx2, cx3⟩ := cells4 HBx.out
    have hlx := (Array.getElem?_eq_some_iff.1 HBx.out).1
    obtain ⟨cy0, cy1, cy2, cy3⟩ := cells4 HBy.out
    have hly := (Array.getElem?_eq_some_iff.1 HBy.out).1
    go_cut [9] (fun p wx => ∃ B : Nat, p = .pointer (some ⟨B, 0, none⟩) ∧ wx.heap[B]? = some (.cells #[.int .u64 h0, .int .u64 h1, .int .u64 h2, .int .u64 h3] 24 (0, 0)) ∧ Below U4.heap.size U4 wx)
    case first =>
      refine wp_region_heldS (S := fun V => Below U4.heap.size U4 V) (by kernel_rfl) (Below.refl _ _).drew (fun hS => ?_)
      refine wpAnyH_take (i := 1) (v := ?_) rfl (by kernel_rfl) (by kernel_rfl) (by kernel_rfl) (fun _ _ _ h => h) (Or.inl ⟨by kernel_rfl, ?_⟩) hS ?_
      rotate_left
      · intro V hV
        have k0 := (hV.cell (p := ⟨w.heap.size + 1, 0, none⟩) hly).trans cy0
        have k1 := (hV.cell (p := ⟨w.heap.size + 1, 1, none⟩) hly).trans cy1
        have k2 := (hV.cell (p := ⟨w.heap.size + 1, 2, none⟩) hly).trans cy2
        have k3 := (hV.cell (p := ⟨w.heap.size + 1, 3, none⟩) hly).trans cy3
        go_simp
        (try with_reducible rfl)
      simp only [Act.put, List.setIfInBounds_toArray]
      refine wpAnyH_ready (rs := [0, 3]) (by kernel_rfl) (by simp) ?_
      refine AllReadyH.cons rfl (fun K hK => ?_) (AllReadyH.cons rfl (fun K hK => ?_) AllReadyH.nil)
      · go_simp
        refine (Ck6.out _).mono ?_
        rintro e U1 ⟨rfl, hbc⟩
        refine hK.out _ _ (hS.trans (hbc.mono hS.size)) (fun hS => ?_)
        clear hK K hbc
        refine wpAnyH_ready (rs := [2, 3]) (by kernel_rfl) (by simp) ?_
        refine AllReadyH.cons rfl (fun K hK => ?_) (AllReadyH.cons rfl (fun K hK => ?_) AllReadyH.nil)
        · go_simp
          refine (Ck7.out _).mono ?_
          rintro e U2 ⟨rfl, hbc⟩
          refine hK.out _ _ (hS.trans (hbc.mono hS.size)) (fun hS => ?_)
          clear hK K hbc
          refine wpAnyH_ready (rs := [3]) (by kernel_rfl) (by simp) ?_
          refine AllReadyH.cons rfl (fun K hK => ?_) AllReadyH.nil
          · go_simp
            obtain ⟨B3, hBe⟩ : ∃ B3, B3 = U2.heap.size := ⟨_, rfl⟩
            have hZ3 : (U2.alloc (.cells #[.int .u64 0, .int .u64 0, .int .u64 0, .int .u64 0] 24)).heap[B3]? = some (.cells #[.int .u64 0, .int .u64 0, .int .u64 0, .int .u64 0] 24 (0, 0)) := by rw [hBe]; exact heap_new _ _
            have hL3 : U4.heap.size ≤ B3 := by rw [hBe]; exact hS.size
            have hSA : Below U4.heap.size U4 (U2.alloc (.cells #[.int .u64 0, .int .u64 0, .int .u64 0, .int .u64 0] 24)) := hS.alloc hS.size _
            rw [← hBe]
            have hLT3 : B3 < (U2.alloc (.cells #[.int .u64 0, .int .u64 0, .int .u64 0, .int .u64 0] 24)).heap.size := (Array.getElem?_eq_some_iff.1 hZ3).1
            generalize (U2.alloc (.cells #[.int .u64 0, .int .u64 0, .int .u64 0, .int .u64 0] 24)) = U3 at hZ3  hSA hLT3  ⊢
            refine hK.out _ _ hSA (fun hS => ?_)
            clear hK K hSA hBe
            obtain ⟨a0, a1, a2, a3⟩ := cells4 hZ3
            have fa : ∀ o, U3.frozen? ⟨B3, o, none⟩ = false := fun o => blk_free hZ3
            refine wpAnyH_ready (rs := [4]) (by kernel_rfl) (by simp) (AllReadyH.cons rfl (fun K hK => ?_) AllReadyH.nil)
            go_simp
            have g3 := stored4 (z0 := .int .u64 h0) (z1 := .int .u64 h1) (z2 := .int .u64 h2) (z3 := .int .u64 h3) hZ3
            have hSB := below_stored4 (b := B3) (z0 := .int .u64 h0) (z1 := .int .u64 h1) (z2 := .int .u64 h2) (z3 := .int .u64 h3) hS hL3
            generalize ((((U3.setCell ⟨B3, 0, none⟩ (.int .u64 h0)).setCell ⟨B3, 1, none⟩ (.int .u64 h1)).setCell ⟨B3, 2, none⟩ (.int .u64 h2)).setCell ⟨B3, 3, none⟩ (.int .u64 h3)) = U3x at g3 hSB  ⊢
            refine hK.out _ _ hSB (fun hS => wpAnyH_done (by kernel_rfl) ?_ _)
            clear hK K
            go_wp2_with fail
            go_meet
            exact ⟨B3, rfl, g3, hSB⟩
        · go_simp
          obtain ⟨B3, hBe⟩ : ∃ B3, B3 = U1.heap.size := ⟨_, rfl⟩
          have hZ3 : (U1.alloc (.cells #[.int .u64 0, .int .u64 0, .int .u64 0, .int .u64 0] 24)).heap[B3]? = some (.cells #[.int .u64 0, .int .u64 0, .int .u64 0, .int .u64 0] 24 (0, 0)) := by rw [hBe]; exact heap_new _ _
          have hL3 : U4.heap.size ≤ B3 := by rw [hBe]; exact hS.size
          have hSA : Below U4.heap.size U4 (U1.alloc (.cells #[.int .u64 0, .int .u64 0, .int .u64 0, .int .u64 0] 24)) := hS.alloc hS.size _
          rw [← hBe]
          have hLT3 : B3 < (U1.alloc (.cells #[.int .u64 0, .int .u64 0, .int .u64 0, .int .u64 0] 24)).heap.size := (Array.getElem?_eq_some_iff.1 hZ3).1
          generalize (U1.alloc (.cells #[.int .u64 0, .int .u64 0, .int .u64 0, .int .u64 0] 24)) = U4 at hZ3  hSA hLT3  ⊢
          refine hK.out _ _ hSA (fun hS => ?_)
          clear hK K hSA hBe
          refine wpAnyH_ready (rs := [2]) (by kernel_rfl) (by simp) ?_
          refine AllReadyH.cons rfl (fun K hK => ?_) AllReadyH.nil
          · go_simp
            refine (Ck7.out _).mono ?_
            rintro e U5 ⟨rfl, hbc⟩
            refine hK.out _ _ (hS.trans (hbc.mono hS.size)) (fun hS => ?_)
            replace hZ3 := (hbc.block B3 (Array.getElem?_eq_some_iff.1 hZ3).1).trans hZ3
            replace hLT3 := (Array.getElem?_eq_some_iff.1 hZ3).1
            clear hK K hbc
            obtain ⟨a0, a1, a2, a3⟩ := cells4 hZ3
            have fa : ∀ o, U5.frozen? ⟨B3, o, none⟩ = false := fun o => blk_free hZ3
            refine wpAnyH_ready (rs := [4]) (by kernel_rfl) (by simp) (AllReadyH.cons rfl (fun K hK => ?_) AllReadyH.nil)
            go_simp
            have g3 := stored4 (z0 := .int .u64 h0) (z1 := .int .u64 h1) (z2 := .int .u64 h2) (z3 := .int .u64 h3) hZ3
            have hSB := below_stored4 (b := B3) (z0 := .int .u64 h0) (z1 := .int .u64 h1) (z2 := .int .u64 h2) (z3 := .int .u64 h3) hS hL3
            generalize ((((U5.setCell ⟨B3, 0, none⟩ (.int .u64 h0)).setCell ⟨B3, 1, none⟩ (.int .u64 h1)).setCell ⟨B3, 2, none⟩ (.int .u64 h2)).setCell ⟨B3, 3, none⟩ (.int .u64 h3)) = U5x at g3 hSB  ⊢
            refine hK.out _ _ hSB (fun hS => wpAnyH_done (by kernel_rfl) ?_ _)
            clear hK K
            go_wp2_with fail
            go_meet
            exact ⟨B3, rfl, g3, hSB⟩
      · go_simp
        obtain ⟨B3, hBe⟩ : ∃ B3, B3 = U4.heap.size := ⟨_, rfl⟩
        have hZ3 : (U4.alloc (.cells #[.int .u64 0, .int .u64 0, .int .u64 0, .int .u64 0] 24)).drew.heap[B3]? = some (.cells #[.int .u64 0, .int .u64 0, .int .u64 0, .int .u64 0] 24 (0, 0)) := by rw [hBe]; exact heap_new _ _
        have hL3 : U4.heap.size ≤ B3 := by rw [hBe]; exact Nat.le_refl _
        have hSA : Below U4.heap.size U4 (U4.alloc (.cells #[.int .u64 0, .int .u64 0, .int .u64 0, .int .u64 0] 24)).drew := ((Below.refl _ U4).alloc (Nat.le_refl _) _).drew
        rw [← hBe]
        have hLT3 : B3 < (U4.alloc (.cells #[.int .u64 0, .int .u64 0, .int .u64 0, .int .u64 0] 24)).drew.heap.size := (Array.getElem?_eq_some_iff.1 hZ3).1
        generalize (U4.alloc (.cells #[.int .u64 0, .int .u64 0, .int .u64 0, .int .u64 0] 24)).drew = U6 at hZ3  hSA hLT3  ⊢
        refine hK.out _ _ hSA (fun hS => ?_)
        clear hK K hSA hBe
        refine wpAnyH_ready (rs := [0]) (by kernel_rfl) (by simp) ?_
        refine AllReadyH.cons rfl (fun K hK => ?_) AllReadyH.nil
        · go_simp
          refine (Ck6.out _).mono ?_
          rintro e U7 ⟨rfl, hbc⟩
          refine hK.out _ _ (hS.trans (hbc.mono hS.size)) (fun hS => ?_)
          replace hZ3 := (hbc.block B3 (Array.getElem?_eq_some_iff.1 hZ3).1).trans hZ3
          replace hLT3 := (Array.getElem?_eq_some_iff.1 hZ3).1
          clear hK K hbc
          refine wpAnyH_ready (rs := [2]) (by kernel_rfl) (by simp) ?_
          refine AllReadyH.cons rfl (fun K hK => ?_) AllReadyH.nil
          · go_simp
            refine (Ck7.out _).mono ?_
            rintro e U8 ⟨rfl, hbc⟩
            refine hK.out _ _ (hS.trans (hbc.mono hS.size)) (fun hS => ?_)
            replace hZ3 := (hbc.block B3 (Array.getElem?_eq_some_iff.1 hZ3).1).trans hZ3
            replace hLT3 := (Array.getElem?_eq_some_iff.1 hZ3).1
            clear hK K hbc
            obtain ⟨a0, a1, a2, a3⟩ := cells4 hZ3
            have fa : ∀ o, U8.frozen? ⟨B3, o, none⟩ = false := fun o => blk_free hZ3
            refine wpAnyH_ready (rs := [4]) (by kernel_rfl) (by simp) (AllReadyH.cons rfl (fun K hK => ?_) AllReadyH.nil)
            go_simp
            have g3 := stored4 (z0 := .int .u64 h0) (z1 := .int .u64 h1) (z2 := .int .u64 h2) (z3 := .int .u64 h3) hZ3
            have hSB := below_stored4 (b := B3) (z0 := .int .u64 h0) (z1 := .int .u64 h1) (z2 := .int .u64 h2) (z3 := .int .u64 h3) hS hL3
            generalize ((((U8.setCell ⟨B3, 0, none⟩ (.int .u64 h0)).setCell ⟨B3, 1, none⟩ (.int .u64 h1)).setCell ⟨B3, 2, none⟩ (.int .u64 h2)).setCell ⟨B3, 3, none⟩ (.int .u64 h3)) = U8x at g3 hSB  ⊢
            refine hK.out _ _ hSB (fun hS => wpAnyH_done (by kernel_rfl) ?_ _)
            clear hK K
            go_wp2_with fail
            go_meet
            exact ⟨B3, rfl, g3, hSB⟩
    case rest =>
      obtain ⟨B, rfl, gh, hbx⟩ := hcut
      clear cx0 cx1 cx2 cx3 hlx
      clear cy0 cy1 cy2 cy3 hly
      replace HBx : Hid (wc.heap[w.heap.size]? = some (.cells #[.int .u64 x0, .int .u64 x1, .int .u64 x2, .int .u64 x3] 24 (0, 0))) := (hbx.block _ (Array.getElem?_eq_some_iff.1 HBx.out).1).trans HBx.out
      replace HBy : Hid (wc.heap[w.heap.size + 1]? = some (.cells #[.int .u64 y0, .int .u64 y1, .int .u64 y2, .int .u64 y3] 24 (0, 0))) := (hbx.block _ (Array.getElem?_eq_some_iff.1 HBy.out).1).trans HBy.out
      replace HBW : Hid (Below w.heap.size w wc) := HBW.out.trans (hbx.mono HBW.out.size)
      have HBh := hideP gh
      clear gh hbx
      obtain ⟨cx0, cx1, cx2, cx3⟩ := cells4 HBx.out
      have hlx := (Array.getElem?_eq_some_iff.1 HBx.out).1
      obtain ⟨cy0, cy1, cy2, cy3⟩ := cells4 HBy.out
      have hly := (Array.getElem?_eq_some_iff.1 HBy.out).1
      obtain ⟨ch0, ch1, ch2, ch3⟩ := cells4 HBh.out
      have hlh := (Array.getElem?_eq_some_iff.1 HBh.out).1
      go_wp2_with fail
      refine wp_region_heldS (S := fun V => Below wc.heap.size wc V) (by kernel_rfl) (Below.refl _ _).drew (fun hS => ?_)
      refine wpAnyH_takeL (i := 0) (v := ?_) rfl (by kernel_rfl) (by kernel_rfl) (by kernel_rfl) (fun _ _ _ h => h) (Or.inl ⟨by kernel_rfl, ?_⟩) hS ?_
      rotate_left
      · intro V hV
        have k0 := (hV.cell (p := ⟨w.heap.size, 0, none⟩) hlx).trans cx0
        have k1 := (hV.cell (p := ⟨w.heap.size, 1, none⟩) hlx).trans cx1
        have k2 := (hV.cell (p := ⟨w.heap.size, 2, none⟩) hlx).trans cx2
        have k3 := (hV.cell (p := ⟨w.heap.size, 3, none⟩) hlx).trans cx3
        go_simp
        (try with_reducible rfl)
      simp only [put_list, List.set_cons_succ, List.set_cons_zero]
      refine wpAnyH_takeL (i := 2) (v := ?_) rfl (by kernel_rfl) (by kernel_rfl) (by kernel_rfl) (fun _ _ _ h => h) (Or.inl ⟨by kernel_rfl, ?_⟩) hS ?_
      rotate_left
      · intro V hV
        have k0 := (hV.cell (p := ⟨B, 0, none⟩) hlh).trans ch0
        have k1 := (hV.cell (p := ⟨B, 1, none⟩) hlh).trans ch1
        have k2 := (hV.cell (p := ⟨B, 2, none⟩) hlh).trans ch2
        have k3 := (hV.cell (p := ⟨B, 3, none⟩) hlh).trans ch3
        go_simp
        (try with_reducible rfl)
      simp only [put_list, List.set_cons_succ, List.set_cons_zero]
      refine wpAnyH_takeL (i := 5) (v := ?_) rfl (by kernel_rfl) (by kernel_rfl) (by kernel_rfl) (fun _ _ _ h => h) (Or.inl ⟨by kernel_rfl, ?_⟩) hS ?_
      rotate_left
      · intro V hV
        have k0 := (hV.cell (p := ⟨w.heap.size, 0, none⟩) hlx).trans cx0
        have k1 := (hV.cell (p := ⟨w.heap.size, 1, none⟩) hlx).trans cx1
        have k2 := (hV.cell (p := ⟨w.heap.size, 2, none⟩) hlx).trans cx2
        have k3 := (hV.cell (p := ⟨w.heap.size, 3, none⟩) hlx).trans cx3
        go_simp
        (try with_reducible rfl)
      simp only [put_list, List.set_cons_succ, List.set_cons_zero]
      refine wpAnyH_takeL (i := 6) (v := ?_) rfl (by kernel_rfl) (by kernel_rfl) (by kernel_rfl) (fun _ _ _ h => h) (Or.inl ⟨by kernel_rfl, ?_⟩) hS ?_
      rotate_left
      · intro V hV
        have k0 := (hV.cell (p := ⟨w.heap.size, 0, none⟩) hlx).trans cx0
        have k1 := (hV.cell (p := ⟨w.heap.size, 1, none⟩) hlx).trans cx1
        have k2 := (hV.cell (p := ⟨w.heap.size, 2, none⟩) hlx).trans cx2
        have k3 := (hV.cell (p := ⟨w.heap.size, 3, none⟩) hlx).trans cx3
        go_simp
        (try with_reducible rfl)
      simp only [put_list, List.set_cons_succ, List.set_cons_zero]
      refine wpAnyH_takeL (i := 8) (v := ?_) rfl (by kernel_rfl) (by kernel_rfl) (by kernel_rfl) (fun _ _ _ h => h) (Or.inl ⟨by kernel_rfl, ?_⟩) hS ?_
      rotate_left
      · intro V hV
        have k0 := (hV.cell (p := ⟨B, 0, none⟩) hlh).trans ch0
        have k1 := (hV.cell (p := ⟨B, 1, none⟩) hlh).trans ch1
        have k2 := (hV.cell (p := ⟨B, 2, none⟩) hlh).trans ch2
        have k3 := (hV.cell (p := ⟨B, 3, none⟩) hlh).trans ch3
        go_simp
        (try with_reducible rfl)
      simp only [put_list, List.set_cons_succ, List.set_cons_zero]
      refine wpAnyH_ready (rs := [1]) (by kernel_rfl) (by simp) (AllReadyH.cons rfl (fun K hK => ?_) AllReadyH.nil)
      go_simp
      refine (Ck6.out _).mono ?_
      rintro e U1 ⟨rfl, hbc⟩
      refine hK.out _ _ (hS.trans (hbc.mono hS.size)) (fun hS => ?_)
      clear hK K hbc
      refine wpAnyH_ready (rs := [3]) (by kernel_rfl) (by simp) (AllReadyH.cons rfl (fun K hK => ?_) AllReadyH.nil)
      go_simp
      refine (Ck8.out _).mono ?_
      rintro e U2 ⟨rfl, hbc⟩
      refine hK.out _ _ (hS.trans (hbc.mono hS.size)) (fun hS => ?_)
      clear hK K hbc
      refine wpAnyH_ready (rs := [4]) (by kernel_rfl) (by simp) (AllReadyH.cons rfl (fun K hK => ?_) AllReadyH.nil)
      go_simp
      refine (Ck9.out _).mono ?_
      rintro e U3 ⟨rfl, hbc⟩
      refine hK.out _ _ (hS.trans (hbc.mono hS.size)) (fun hS => ?_)
      clear hK K hbc
      refine wpAnyH_ready (rs := [7]) (by kernel_rfl) (by simp) (AllReadyH.cons rfl (fun K hK => ?_) AllReadyH.nil)
      go_simp
      refine (Ck10.out _).mono ?_
      rintro e U4 ⟨rfl, hbc⟩
      refine hK.out _ _ (hS.trans (hbc.mono hS.size)) (fun hS => ?_)
      clear hK K hbc
      refine wpAnyH_ready (rs := [9]) (by kernel_rfl) (by simp) (AllReadyH.cons rfl (fun K hK => ?_) AllReadyH.nil)
      go_simp
      refine (Ck11.out _).mono ?_
      rintro e U5 ⟨rfl, hbc⟩
      refine hK.out _ _ (hS.trans (hbc.mono hS.size)) (fun hS => ?_)
      clear hK K hbc
      refine wpAnyH_takeL (i := 10) (v := ?_) rfl (by kernel_rfl) (by kernel_rfl) (by kernel_rfl) (fun _ _ _ h => h) (Or.inl ⟨by kernel_rfl, ?_⟩) hS ?_
      rotate_left
      · intro V hV
        go_simp
        (try with_reducible rfl)
      simp only [put_list, List.set_cons_succ, List.set_cons_zero]
      refine wpAnyH_takeL (i := 11) (v := ?_) rfl (by kernel_rfl) (by kernel_rfl) (by kernel_rfl) (fun _ _ _ h => h) (Or.inl ⟨by kernel_rfl, ?_⟩) hS ?_
      rotate_left
      · intro V hV
        go_simp
        (try with_reducible rfl)
      simp only [put_list, List.set_cons_succ, List.set_cons_zero]
      refine wpAnyH_takeL (i := 12) (v := ?_) rfl (by kernel_rfl) (by kernel_rfl) (by kernel_rfl) (fun _ _ _ h => h) (Or.inl ⟨by kernel_rfl, ?_⟩) hS ?_
      rotate_left
      · intro V hV
        have k0 := (hV.cell (p := ⟨w.heap.size, 0, none⟩) hlx).trans cx0
        have k1 := (hV.cell (p := ⟨w.heap.size, 1, none⟩) hlx).trans cx1
        have k2 := (hV.cell (p := ⟨w.heap.size, 2, none⟩) hlx).trans cx2
        have k3 := (hV.cell (p := ⟨w.heap.size, 3, none⟩) hlx).trans cx3
        go_simp
        (try with_reducible rfl)
      simp only [put_list, List.set_cons_succ, List.set_cons_zero]
      refine wpAnyH_takeL (i := 13) (v := ?_) rfl (by kernel_rfl) (by kernel_rfl) (by kernel_rfl) (fun _ _ _ h => h) (Or.inl ⟨by kernel_rfl, ?_⟩) hS ?_
      rotate_left
      · intro V hV
        go_simp
        (try with_reducible rfl)
      simp only [put_list, List.set_cons_succ, List.set_cons_zero]
      refine wpAnyH_ready (rs := [14]) (by kernel_rfl) (by simp) (AllReadyH.cons rfl (fun K hK => ?_) AllReadyH.nil)
      go_simp
      refine (Ck12.out _).mono ?_
      rintro e U6 ⟨rfl, hbc⟩
      refine hK.out _ _ (hS.trans (hbc.mono hS.size)) (fun hS => ?_)
      clear hK K hbc
      refine wpAnyH_ready (rs := [15]) (by kernel_rfl) (by simp) (AllReadyH.cons rfl (fun K hK => ?_) AllReadyH.nil)
      go_simp
      refine (Ck6.out _).mono ?_
      rintro e U7 ⟨rfl, hbc⟩
      refine hK.out _ _ (hS.trans (hbc.mono hS.size)) (fun hS => ?_)
      clear hK K hbc
      refine wpAnyH_takeL (i := 16) (v := ?_) rfl (by kernel_rfl) (by kernel_rfl) (by kernel_rfl) (fun _ _ _ h => h) (Or.inl ⟨by kernel_rfl, ?_⟩) hS ?_
      rotate_left
      · intro V hV
        go_simp
        (try with_reducible rfl)
      simp only [put_list, List.set_cons_succ, List.set_cons_zero]
      refine wpAnyH_takeL (i := 17) (v := ?_) rfl (by kernel_rfl) (by kernel_rfl) (by kernel_rfl) (fun _ _ _ h => h) (Or.inl ⟨by kernel_rfl, ?_⟩) hS ?_
      rotate_left
      · intro V hV
        go_simp
        (try with_reducible rfl)
      simp only [put_list, List.set_cons_succ, List.set_cons_zero]
      refine wpAnyH_takeL (i := 18) (v := ?_) rfl (by kernel_rfl) (by kernel_rfl) (by kernel_rfl) (fun _ _ _ h => h) (Or.inl ⟨by kernel_rfl, ?_⟩) hS ?_
      rotate_left
      · intro V hV
        go_simp
        (try with_reducible rfl)
      simp only [put_list, List.set_cons_succ, List.set_cons_zero]
      refine wpAnyH_takeL (i := 19) (v := ?_) rfl (by kernel_rfl) (by kernel_rfl) (by kernel_rfl) (fun _ _ _ h => h) (Or.inl ⟨by kernel_rfl, ?_⟩) hS ?_
      rotate_left
      · intro V hV
        have k0 := (hV.cell (p := ⟨w.heap.size, 0, none⟩) hlx).trans cx0
        have k1 := (hV.cell (p := ⟨w.heap.size, 1, none⟩) hlx).trans cx1
        have k2 := (hV.cell (p := ⟨w.heap.size, 2, none⟩) hlx).trans cx2
        have k3 := (hV.cell (p := ⟨w.heap.size, 3, none⟩) hlx).trans cx3
        go_simp
        (try with_reducible rfl)
      simp only [put_list, List.set_cons_succ, List.set_cons_zero]
      refine wpAnyH_takeL (i := 22) (v := ?_) rfl (by kernel_rfl) (by kernel_rfl) (by kernel_rfl) (fun _ _ _ h => h) (Or.inl ⟨by kernel_rfl, ?_⟩) hS ?_
      rotate_left
      · intro V hV
        have k0 := (hV.cell (p := ⟨w.heap.size, 0, none⟩) hlx).trans cx0
        have k1 := (hV.cell (p := ⟨w.heap.size, 1, none⟩) hlx).trans cx1
        have k2 := (hV.cell (p := ⟨w.heap.size, 2, none⟩) hlx).trans cx2
        have k3 := (hV.cell (p := ⟨w.heap.size, 3, none⟩) hlx).trans cx3
        go_simp
        (try with_reducible rfl)
      simp only [put_list, List.set_cons_succ, List.set_cons_zero]
      refine wpAnyH_ready (rs := [20]) (by kernel_rfl) (by simp) (AllReadyH.cons rfl (fun K hK => ?_) AllReadyH.nil)
      go_simp
      refine (Ck6.out _).mono ?_
      rintro e U8 ⟨rfl, hbc⟩
      refine hK.out _ _ (hS.trans (hbc.mono hS.size)) (fun hS => ?_)
      clear hK K hbc
      refine wpAnyH_ready (rs := [21]) (by kernel_rfl) (by simp) (AllReadyH.cons rfl (fun K hK => ?_) AllReadyH.nil)
      go_simp
      refine (Ck13.out _).mono ?_
      rintro e U9 ⟨rfl, hbc⟩
      refine hK.out _ _ (hS.trans (hbc.mono hS.size)) (fun hS => ?_)
      clear hK K hbc
      refine wpAnyH_takeL (i := 23) (v := ?_) rfl (by kernel_rfl) (by kernel_rfl) (by kernel_rfl) (fun _ _ _ h => h) (Or.inl ⟨by kernel_rfl, ?_⟩) hS ?_
      rotate_left
      · intro V hV
        go_simp
        (try with_reducible rfl)
      simp only [put_list, List.set_cons_succ, List.set_cons_zero]
      refine wpAnyH_takeL (i := 24) (v := ?_) rfl (by kernel_rfl) (by kernel_rfl) (by kernel_rfl) (fun _ _ _ h => h) (Or.inl ⟨by kernel_rfl, ?_⟩) hS ?_
      rotate_left
      · intro V hV
        go_simp
        (try with_reducible rfl)
      simp only [put_list, List.set_cons_succ, List.set_cons_zero]
      refine wpAnyH_ready (rs := [25]) (by kernel_rfl) (by simp) (AllReadyH.cons rfl (fun K hK => ?_) AllReadyH.nil)
      go_simp
      refine hK.out _ _ hS (fun hS => ?_)
      clear hK K
      refine wpAnyH_done (by kernel_rfl) ?_ _
      go_wp2_with fail
      go_ret
      exact ⟨rfl, HBW.out.trans (hS.mono HBW.out.size)⟩
  · obtain ⟨x0, x1, x2, x3, hx⟩ := wv_form X
    obtain ⟨y0, y1, y2, y3, hy⟩ := wv_form Y
    obtain ⟨z0, z1, z2, z3, hz⟩ := wv_form Z
    obtain ⟨p0, p1, p2, p3, hp⟩ := wv_form (X ^ (Y % M256))
    obtain ⟨q0, q1, q2, q3, hq⟩ := wv_form (X ^ (Z % M256))
    obtain ⟨h0, h1, h2, h3, hh⟩ := wv_form (Y % M256 / 2)
    obtain ⟨d0, d1, d2, d3, hd⟩ := wv_form (Y % M256 / 2 * 2)
    obtain ⟨f0, f1, f2, f3, hf⟩ := wv_form (X ^ (Y % M256 / 2 * 2 % M256))
    obtain ⟨m0, m1, m2, m3, hm⟩ := wv_form (X * X)
    have hi : wv 1 = .agg #[.int .u64 1, .int .u64 0, .int .u64 0, .int .u64 0] := rfl
    have ho : wv 0 = .agg #[.int .u64 0, .int .u64 0, .int .u64 0, .int .u64 0] := rfl
    obtain ⟨s0, s1, s2, s3, hs⟩ := wv_form (Y + Z)
    have k1 := fun W => carry_yes Y Z hc W
    simp only [hy, hz, hs] at k1
    have Ck1 := hideP k1
    clear k1
    have k6 := fun W => one_any W
    simp only [hi] at k6
    have Ck6 := hideP k6
    clear k6
    have k7 := fun W => shr_in 1 Y (by decide) W
    simp only [show (1 : Nat) % M256 = 1 from rfl, Nat.pow_one] at k7
    simp only [hi, hy, hh] at k7
    have Ck7 := hideP k7
    clear k7
    have k8 := fun W => shl_in 1 (Y % M256 / 2) (by decide) W
    simp only [show (1 : Nat) % M256 = 1 from rfl, Nat.pow_one] at k8
    simp only [hi, hh, hd] at k8
    have Ck8 := hideP k8
    clear k8
    have k9 := fun W => exp_any X (Y % M256 / 2 * 2) W
    simp only [hx, hd, hf] at k9
    have Ck9 := hideP k9
    clear k9
    have k10 := fun W => mul_any X X W
    simp only [hx, hm] at k10
    have Ck10 := hideP k10
    clear k10
    have k11 := fun W => exp_any (X * X) (Y % M256 / 2) W
    simp only [exp_half] at k11
    simp only [hm, hh, hf] at k11
    have Ck11 := hideP k11
    clear k11
    have k12 := fun W => exp_any X 0 W
    simp only [Nat.zero_mod, Nat.pow_zero] at k12
    simp only [hx, ho, hi] at k12
    have Ck12 := hideP k12
    clear k12
    have k13 := fun W => exp_any X 1 W
    simp only [show (1 : Nat) % M256 = 1 from rfl, Nat.pow_one] at k13
    simp only [hx, hi] at k13
    have Ck13 := hideP k13
    clear k13
    have CAW := hideP (fun W => awake_any W)
    have eqw := eq_words
    simp only [hx, hy, hz]
    clear hc hx hy hz hp hq hh hd hf hm hi hs ho
    go_enter Try.func12, Try.ntmps12
    go_wp2_with fail
    refine (CAW.out _).mono ?_
    rintro e W0 ⟨rfl, hb⟩
    have HBx : Hid (W0.heap[w.heap.size]? = some (.cells #[.int .u64 x0, .int .u64 x1, .int .u64 x2, .int .u64 x3] 24 (0, 0))) := (kept4 hb ((heap_old _ _ (by simp <;> omega)).trans ((heap_old _ _ (by simp <;> omega)).trans (heap_new _ _)))).1
    have HBy : Hid (W0.heap[w.heap.size + 1]? = some (.cells #[.int .u64 y0, .int .u64 y1, .int .u64 y2, .int .u64 y3] 24 (0, 0))) := (kept4 hb ((heap_old _ _ (by simp <;> omega)).trans (heap_new1 _ _ _))).1
    have HBz : Hid (W0.heap[w.heap.size + 1 + 1]? = some (.cells #[.int .u64 z0, .int .u64 z1, .int .u64 z2, .int .u64 z3] 24 (0, 0))) := (kept4 hb (heap_new2 _ _ _ _)).1
    have HBW : Hid (Below w.heap.size w W0) := ((((Below.refl _ w).alloc (Nat.le_refl _) _).alloc (by simp <;> omega) _).alloc (by simp <;> omega) _).trans (hb.mono (by simp <;> omega))
    clear hb
    obtain ⟨cy0, cy1, cy2, cy3⟩ := cells4 HBy.out
    have hly := (Array.getElem?_eq_some_iff.1 HBy.out).1
    obtain ⟨cz0, cz1, cz2, cz3⟩ := cells4 HBz.out
    have hlz := (Array.getElem?_eq_some_iff.1 HBz.out).1
    go_wp2_with fail
    refine (Ck1.out _).mono ?_
    rintro e V1 ⟨rfl, hb⟩
    replace HBx : Hid (V1.heap[w.heap.size]? = some (.cells #[.int .u64 x0, .int .u64 x1, .int .u64 x2, .int .u64 x3] 24 (0, 0))) := (hb.block _ (Array.getElem?_eq_some_iff.1 HBx.out).1).trans HBx.out
    replace HBy : Hid (V1.heap[w.heap.size + 1]? = some (.cells #[.int .u64 y0, .int .u64 y1, .int .u64 y2, .int .u64 y3] 24 (0, 0))) := (hb.block _ (Array.getElem?_eq_some_iff.1 HBy.out).1).trans HBy.out
    replace HBz : Hid (V1.heap[w.heap.size + 1 + 1]? = some (.cells #[.int .u64 z0, .int .u64 z1, .int .u64 z2, .int .u64 z3] 24 (0, 0))) := (hb.block _ (Array.getElem?_eq_some_iff.1 HBz.out).1).trans HBz.out
    replace HBW : Hid (Below w.heap.size w V1) := HBW.out.trans (hb.mono HBW.out.size)
    clear hb
    clear cy0 cy1 cy2 cy3 hly
    clear cz0 cz1 cz2 cz3 hlz
    go_wp2_with fail
    refine at_world (fun V2 hU => ?_)
    have HBs : Hid (V2.heap[V1.heap.size]? = some (.cells #[.int .u64 s0, .int .u64 s1, .int .u64 s2, .int .u64 s3] 24 (0, 0))) := by
      show _ = _
      rw [hU]
      exact heap_new _ _
    have hb : Below V1.heap.size V1 V2 := by
      rw [hU]
      exact (Below.refl _ _).alloc (Nat.le_refl _) _
    clear hU
    replace HBx : Hid (V2.heap[w.heap.size]? = some (.cells #[.int .u64 x0, .int .u64 x1, .int .u64 x2, .int .u64 x3] 24 (0, 0))) := (hb.block _ (Array.getElem?_eq_some_iff.1 HBx.out).1).trans HBx.out
    replace HBy : Hid (V2.heap[w.heap.size + 1]? = some (.cells #[.int .u64 y0, .int .u64 y1, .int .u64 y2, .int .u64 y3] 24 (0, 0))) := (hb.block _ (Array.getElem?_eq_some_iff.1 HBy.out).1).trans HBy.out
    replace HBz : Hid (V2.heap[w.heap.size + 1 + 1]? = some (.cells #[.int .u64 z0, .int .u64 z1, .int .u64 z2, .int .u64 z3] 24 (0, 0))) := (hb.block _ (Array.getElem?_eq_some_iff.1 HBz.out).1).trans HBz.out
    replace HBW : Hid (Below w.heap.size w V2) := HBW.out.trans (hb.mono HBW.out.size)
    clear hb
    obtain ⟨cx0, cx1, cx2, cx3⟩ := cells4 HBx.out
    have hlx := (Array.getElem?_eq_some_iff.1 HBx.out).1
    obtain ⟨cy0, cy1, cy2, cy3⟩ := cells4 HBy.out
    have hly := (Array.getElem?_eq_some_iff.1 HBy.out).1
    obtain ⟨cz0, cz1, cz2, cz3⟩ := cells4 HBz.out
    have hlz := (Array.getElem?_eq_some_iff.1 HBz.out).1
    obtain ⟨cs0, cs1, cs2, cs3⟩ := cells4 HBs.out
    have hls := (Array.getElem?_eq_some_iff.1 HBs.out).1
    refine wp_region_heldS (S := fun V => Below V2.heap.size V2 V) (by kernel_rfl) (Below.refl _ _).drew (fun hS => ?_)
    refine wpAnyH_takeL (i := 0) (v := ?_) rfl (by kernel_rfl) (by kernel_rfl) (by kernel_rfl) (fun _ _ _ h => h) (Or.inl ⟨by kernel_rfl, ?_⟩) hS ?_
    rotate_left
    · intro V hV
      go_simp
      (try with_reducible rfl)
    simp only [put_list, List.set_cons_succ, List.set_cons_zero]
    refine wpAnyH_takeL (i := 1) (v := ?_) rfl (by kernel_rfl) (by kernel_rfl) (by kernel_rfl) (fun _ _ _ h => h) (Or.inl ⟨by kernel_rfl, ?_⟩) hS ?_
    rotate_left
    · intro V hV
      go_simp
      (try with_reducible rfl)
    simp only [put_list, List.set_cons_succ, List.set_cons_zero]
    refine wpAnyH_takeL (i := 2) (v := ?_) rfl (by kernel_rfl) (by kernel_rfl) (by kernel_rfl) (fun _ _ _ h => h) (Or.inl ⟨by kernel_rfl, ?_⟩) hS ?_
    rotate_left
    · intro V hV
      go_simp
      (try with_reducible rfl)
    simp only [put_list, List.set_cons_succ, List.set_cons_zero]
    refine wpAnyH_takeL (i := 3) (v := undef) rfl (by kernel_rfl) (by kernel_rfl) (by kernel_rfl) (fun _ _ _ h => h) (Or.inr ⟨by kernel_rfl, rfl⟩) hS ?_
    simp only [put_list, List.set_cons_succ, List.set_cons_zero]
    refine wpAnyH_takeL (i := 4) (v := undef) rfl (by kernel_rfl) (by kernel_rfl) (by kernel_rfl) (fun _ _ _ h => h) (Or.inr ⟨by kernel_rfl, rfl⟩) hS ?_
    simp only [put_list, List.set_cons_succ, List.set_cons_zero]
    refine wpAnyH_takeL (i := 5) (v := undef) rfl (by kernel_rfl) (by kernel_rfl) (by kernel_rfl) (fun _ _ _ h => h) (Or.inr ⟨by kernel_rfl, rfl⟩) hS ?_
    simp only [put_list, List.set_cons_succ, List.set_cons_zero]
    refine wpAnyH_takeL (i := 6) (v := undef) rfl (by kernel_rfl) (by kernel_rfl) (by kernel_rfl) (fun _ _ _ h => h) (Or.inr ⟨by kernel_rfl, rfl⟩) hS ?_
    simp only [put_list, List.set_cons_succ, List.set_cons_zero]
    refine wpAnyH_takeL (i := 7) (v := undef) rfl (by kernel_rfl) (by kernel_rfl) (by kernel_rfl) (fun _ _ _ h => h) (Or.inr ⟨by kernel_rfl, rfl⟩) hS ?_
    simp only [put_list, List.set_cons_succ, List.set_cons_zero]
    refine wpAnyH_takeL (i := 8) (v := undef) rfl (by kernel_rfl) (by kernel_rfl) (by kernel_rfl) (fun _ _ _ h => h) (Or.inr ⟨by kernel_rfl, rfl⟩) hS ?_
    simp only [put_list, List.set_cons_succ, List.set_cons_zero]
    refine wpAnyH_takeL (i := 9) (v := undef) rfl (by kernel_rfl) (by kernel_rfl) (by kernel_rfl) (fun _ _ _ h => h) (Or.inr ⟨by kernel_rfl, rfl⟩) hS ?_
    simp only [put_list, List.set_cons_succ, List.set_cons_zero]
    refine wpAnyH_takeL (i := 10) (v := undef) rfl (by kernel_rfl) (by kernel_rfl) (by kernel_rfl) (fun _ _ _ h => h) (Or.inr ⟨by kernel_rfl, rfl⟩) hS ?_
    simp only [put_list, List.set_cons_succ, List.set_cons_zero]
    refine wpAnyH_takeL (i := 11) (v := undef) rfl (by kernel_rfl) (by kernel_rfl) (by kernel_rfl) (fun _ _ _ h => h) (Or.inr ⟨by kernel_rfl, rfl⟩) hS ?_
    simp only [put_list, List.set_cons_succ, List.set_cons_zero]
    refine wpAnyH_takeL (i := 12) (v := undef) rfl (by kernel_rfl) (by kernel_rfl) (by kernel_rfl) (fun _ _ _ h => h) (Or.inr ⟨by kernel_rfl, rfl⟩) hS ?_
    simp only [put_list, List.set_cons_succ, List.set_cons_zero]
    refine wpAnyH_takeL (i := 13) (v := undef) rfl (by kernel_rfl) (by kernel_rfl) (by kernel_rfl) (fun _ _ _ h => h) (Or.inr ⟨by kernel_rfl, rfl⟩) hS ?_
    simp only [put_list, List.set_cons_succ, List.set_cons_zero]
    refine wpAnyH_takeL (i := 14) (v := ?_) rfl (by kernel_rfl) (by kernel_rfl) (by kernel_rfl) (fun _ _ _ h => h) (Or.inl ⟨by kernel_rfl, ?_⟩) hS ?_
    rotate_left
    · intro V hV
      go_simp
      (try with_reducible rfl)
    simp only [put_list, List.set_cons_succ, List.set_cons_zero]
    refine wpAnyH_done (by kernel_rfl) ?_ _
    go_wp2_with fail
    clear cx0 cx1 cx2 cx3 hlx
    clear cy0 cy1 cy2 cy3 hly
    clear cz0 cz1 cz2 cz3 hlz
    clear cs0 cs1 cs2 cs3 hls
    refine at_world (fun W6 hU => ?_)
    rw [← hU] at hS
    replace HBx : Hid (W6.heap[w.heap.size]? = some (.cells #[.int .u64 x0, .int .u64 x1, .int .u64 x2, .int .u64 x3] 24 (0, 0))) := (hS.block _ (Array.getElem?_eq_some_iff.1 HBx.out).1).trans HBx.out
    replace HBy : Hid (W6.heap[w.heap.size + 1]? = some (.cells #[.int .u64 y0, .int .u64 y1, .int .u64 y2, .int .u64 y3] 24 (0, 0))) := (hS.block _ (Array.getElem?_eq_some_iff.1 HBy.out).1).trans HBy.out
    replace HBW : Hid (Below w.heap.size w W6) := HBW.out.trans (hS.mono HBW.out.size)
    clear hS hU HBz HBs
    obtain ⟨cx0, cx1, cx2, cx3⟩ := cells4 HBx.out
    have hlx := (Array.getElem?_eq_some_iff.1 HBx.out).1
    obtain ⟨cy0, cy1, cy2, cy3⟩ := cells4 HBy.out
    have hly := (Array.getElem?_eq_some_iff.1 HBy.out).1
    go_cut [9] (fun p wx => ∃ B : Nat, p = .pointer (some ⟨B, 0, none⟩) ∧ wx.heap[B]? = some (.cells #[.int .u64 h0, .int .u64 h1, .int .u64 h2, .int .u64 h3] 24 (0, 0)) ∧ Below W6.heap.size W6 wx)
    case first =>
      refine wp_region_heldS (S := fun V => Below W6.heap.size W6 V) (by kernel_rfl) (Below.refl _ _).drew (fun hS => ?_)
      refine wpAnyH_take (i := 1) (v := ?_) rfl (by kernel_rfl) (by kernel_rfl) (by kernel_rfl) (fun _ _ _ h => h) (Or.inl ⟨by kernel_rfl, ?_⟩) hS ?_
      rotate_left
      · intro V hV
        have k0 := (hV.cell (p := ⟨w.heap.size + 1, 0, none⟩) hly).trans cy0
        have k1 := (hV.cell (p := ⟨w.heap.size + 1, 1, none⟩) hly).trans cy1
        have k2 := (hV.cell (p := ⟨w.heap.size + 1, 2, none⟩) hly).trans cy2
        have k3 := (hV.cell (p := ⟨w.heap.size + 1, 3, none⟩) hly).trans cy3
        go_simp
        (try with_reducible rfl)
      simp only [Act.put, List.setIfInBounds_toArray]
      refine wpAnyH_ready (rs := [0, 3]) (by kernel_rfl) (by simp) ?_
      refine AllReadyH.cons rfl (fun K hK => ?_) (AllReadyH.cons rfl (fun K hK => ?_) AllReadyH.nil)
      · go_simp
        refine (Ck6.out _).mono ?_
        rintro e U1 ⟨rfl, hbc⟩
        refine hK.out _ _ (hS.trans (hbc.mono hS.size)) (fun hS => ?_)
        clear hK K hbc
        refine wpAnyH_ready (rs := [2, 3]) (by kernel_rfl) (by simp) ?_
        refine AllReadyH.cons rfl (fun K hK => ?_) (AllReadyH.cons rfl (fun K hK => ?_) AllReadyH.nil)
        · go_simp
          refine (Ck7.out _).mono ?_
          rintro e U2 ⟨rfl, hbc⟩
          refine hK.out _ _ (hS.trans (hbc.mono hS.size)) (fun hS => ?_)
          clear hK K hbc
          refine wpAnyH_ready (rs := [3]) (by kernel_rfl) (by simp) ?_
          refine AllReadyH.cons rfl (fun K hK => ?_) AllReadyH.nil
          · go_simp
            obtain ⟨B3, hBe⟩ : ∃ B3, B3 = U2.heap.size := ⟨_, rfl⟩
            have hZ3 : (U2.alloc (.cells #[.int .u64 0, .int .u64 0, .int .u64 0, .int .u64 0] 24)).heap[B3]? = some (.cells #[.int .u64 0, .int .u64 0, .int .u64 0, .int .u64 0] 24 (0, 0)) := by rw [hBe]; exact heap_new _ _
            have hL3 : W6.heap.size ≤ B3 := by rw [hBe]; exact hS.size
            have hSA : Below W6.heap.size W6 (U2.alloc (.cells #[.int .u64 0, .int .u64 0, .int .u64 0, .int .u64 0] 24)) := hS.alloc hS.size _
            rw [← hBe]
            have hLT3 : B3 < (U2.alloc (.cells #[.int .u64 0, .int .u64 0, .int .u64 0, .int .u64 0] 24)).heap.size := (Array.getElem?_eq_some_iff.1 hZ3).1
            generalize (U2.alloc (.cells #[.int .u64 0, .int .u64 0, .int .u64 0, .int .u64 0] 24)) = U3 at hZ3  hSA hLT3  ⊢
            refine hK.out _ _ hSA (fun hS => ?_)
            clear hK K hSA hBe
            obtain ⟨a0, a1, a2, a3⟩ := cells4 hZ3
            have fa : ∀ o, U3.frozen? ⟨B3, o, none⟩ = false := fun o => blk_free hZ3
            refine wpAnyH_ready (rs := [4]) (by kernel_rfl) (by simp) (AllReadyH.cons rfl (fun K hK => ?_) AllReadyH.nil)
            go_simp
            have g3 := stored4 (z0 := .int .u64 h0) (z1 := .int .u64 h1) (z2 := .int .u64 h2) (z3 := .int .u64 h3) hZ3
            have hSB := below_stored4 (b := B3) (z0 := .int .u64 h0) (z1 := .int .u64 h1) (z2 := .int .u64 h2) (z3 := .int .u64 h3) hS hL3
            generalize ((((U3.setCell ⟨B3, 0, none⟩ (.int .u64 h0)).setCell ⟨B3, 1, none⟩ (.int .u64 h1)).setCell ⟨B3, 2, none⟩ (.int .u64 h2)).setCell ⟨B3, 3, none⟩ (.int .u64 h3)) = U3x at g3 hSB  ⊢
            refine hK.out _ _ hSB (fun hS => wpAnyH_done (by kernel_rfl) ?_ _)
            clear hK K
            go_wp2_with fail
            go_meet
            exact ⟨B3, rfl, g3, hSB⟩
        · go_simp
          obtain ⟨B3, hBe⟩ : ∃ B3, B3 = U1.heap.size := ⟨_, rfl⟩
          have hZ3 : (U1.alloc (.cells #[.int .u64 0, .int .u64 0, .int .u64 0, .int .u64 0] 24)).heap[B3]? = some (.cells #[.int .u64 0, .int .u64 0, .int .u64 0, .int .u64 0] 24 (0, 0)) := by rw [hBe]; exact heap_new _ _
          have hL3 : W6.heap.size ≤ B3 := by rw [hBe]; exact hS.size
          have hSA : Below W6.heap.size W6 (U1.alloc (.cells #[.int .u64 0, .int .u64 0, .int .u64 0, .int .u64 0] 24)) := hS.alloc hS.size _
          rw [← hBe]
          have hLT3 : B3 < (U1.alloc (.cells #[.int .u64 0, .int .u64 0, .int .u64 0, .int .u64 0] 24)).heap.size := (Array.getElem?_eq_some_iff.1 hZ3).1
          generalize (U1.alloc (.cells #[.int .u64 0, .int .u64 0, .int .u64 0, .int .u64 0] 24)) = U4 at hZ3  hSA hLT3  ⊢
          refine hK.out _ _ hSA (fun hS => ?_)
          clear hK K hSA hBe
          refine wpAnyH_ready (rs := [2]) (by kernel_rfl) (by simp) ?_
          refine AllReadyH.cons rfl (fun K hK => ?_) AllReadyH.nil
          · go_simp
            refine (Ck7.out _).mono ?_
            rintro e U5 ⟨rfl, hbc⟩
            refine hK.out _ _ (hS.trans (hbc.mono hS.size)) (fun hS => ?_)
            replace hZ3 := (hbc.block B3 (Array.getElem?_eq_some_iff.1 hZ3).1).trans hZ3
            replace hLT3 := (Array.getElem?_eq_some_iff.1 hZ3).1
            clear hK K hbc
            obtain ⟨a0, a1, a2, a3⟩ := cells4 hZ3
            have fa : ∀ o, U5.frozen? ⟨B3, o, none⟩ = false := fun o => blk_free hZ3
            refine wpAnyH_ready (rs := [4]) (by kernel_rfl) (by simp) (AllReadyH.cons rfl (fun K hK => ?_) AllReadyH.nil)
            go_simp
            have g3 := stored4 (z0 := .int .u64 h0) (z1 := .int .u64 h1) (z2 := .int .u64 h2) (z3 := .int .u64 h3) hZ3
            have hSB := below_stored4 (b := B3) (z0 := .int .u64 h0) (z1 := .int .u64 h1) (z2 := .int .u64 h2) (z3 := .int .u64 h3) hS hL3
            generalize ((((U5.setCell ⟨B3, 0, none⟩ (.int .u64 h0)).setCell ⟨B3, 1, none⟩ (.int .u64 h1)).setCell ⟨B3, 2, none⟩ (.int .u64 h2)).setCell ⟨B3, 3, none⟩ (.int .u64 h3)) = U5x at g3 hSB  ⊢
            refine hK.out _ _ hSB (fun hS => wpAnyH_done (by kernel_rfl) ?_ _)
            clear hK K
            go_wp2_with fail
            go_meet
            exact ⟨B3, rfl, g3, hSB⟩
      · go_simp
        obtain ⟨B3, hBe⟩ : ∃ B3, B3 = W6.heap.size := ⟨_, rfl⟩
        have hZ3 : (W6.alloc (.cells #[.int .u64 0, .int .u64 0, .int .u64 0, .int .u64 0] 24)).drew.heap[B3]? = some (.cells #[.int .u64 0, .int .u64 0, .int .u64 0, .int .u64 0] 24 (0, 0)) := by rw [hBe]; exact heap_new _ _
        have hL3 : W6.heap.size ≤ B3 := by rw [hBe]; exact Nat.le_refl _
        have hSA : Below W6.heap.size W6 (W6.alloc (.cells #[.int .u64 0, .int .u64 0, .int .u64 0, .int .u64 0] 24)).drew := ((Below.refl _ W6).alloc (Nat.le_refl _) _).drew
        rw [← hBe]
        have hLT3 : B3 < (W6.alloc (.cells #[.int .u64 0, .int .u64 0, .int .u64 0, .int .u64 0] 24)).drew.heap.size := (Array.getElem?_eq_some_iff.1 hZ3).1
        generalize (W6.alloc (.cells #[.int .u64 0, .int .u64 0, .int .u64 0, .int .u64 0] 24)).drew = U6 at hZ3  hSA hLT3  ⊢
        refine hK.out _ _ hSA (fun hS => ?_)
        clear hK K hSA hBe
        refine wpAnyH_ready (rs := [0]) (by kernel_rfl) (by simp) ?_
        refine AllReadyH.cons rfl (fun K hK => ?_) AllReadyH.nil
        · go_simp
          refine (Ck6.out _).mono ?_
          rintro e U7 ⟨rfl, hbc⟩
          refine hK.out _ _ (hS.trans (hbc.mono hS.size)) (fun hS => ?_)
          replace hZ3 := (hbc.block B3 (Array.getElem?_eq_some_iff.1 hZ3).1).trans hZ3
          replace hLT3 := (Array.getElem?_eq_some_iff.1 hZ3).1
          clear hK K hbc
          refine wpAnyH_ready (rs := [2]) (by kernel_rfl) (by simp) ?_
          refine AllReadyH.cons rfl (fun K hK => ?_) AllReadyH.nil
          · go_simp
            refine (Ck7.out _).mono ?_
            rintro e U8 ⟨rfl, hbc⟩
            refine hK.out _ _ (hS.trans (hbc.mono hS.size)) (fun hS => ?_)
            replace hZ3 := (hbc.block B3 (Array.getElem?_eq_some_iff.1 hZ3).1).trans hZ3
            replace hLT3 := (Array.getElem?_eq_some_iff.1 hZ3).1
            clear hK K hbc
            obtain ⟨a0, a1, a2, a3⟩ := cells4 hZ3
            have fa : ∀ o, U8.frozen? ⟨B3, o, none⟩ = false := fun o => blk_free hZ3
            refine wpAnyH_ready (rs := [4]) (by kernel_rfl) (by simp) (AllReadyH.cons rfl (fun K hK => ?_) AllReadyH.nil)
            go_simp
            have g3 := stored4 (z0 := .int .u64 h0) (z1 := .int .u64 h1) (z2 := .int .u64 h2) (z3 := .int .u64 h3) hZ3
            have hSB := below_stored4 (b := B3) (z0 := .int .u64 h0) (z1 := .int .u64 h1) (z2 := .int .u64 h2) (z3 := .int .u64 h3) hS hL3
            generalize ((((U8.setCell ⟨B3, 0, none⟩ (.int .u64 h0)).setCell ⟨B3, 1, none⟩ (.int .u64 h1)).setCell ⟨B3, 2, none⟩ (.int .u64 h2)).setCell ⟨B3, 3, none⟩ (.int .u64 h3)) = U8x at g3 hSB  ⊢
            refine hK.out _ _ hSB (fun hS => wpAnyH_done (by kernel_rfl) ?_ _)
            clear hK K
            go_wp2_with fail
            go_meet
            exact ⟨B3, rfl, g3, hSB⟩
    case rest =>
      obtain ⟨B, rfl, gh, hbx⟩ := hcut
      clear cx0 cx1 cx2 cx3 hlx
      clear cy0 cy1 cy2 cy3 hly
      replace HBx : Hid (wc.heap[w.heap.size]? = some (.cells #[.int .u64 x0, .int .u64 x1, .int .u64 x2, .int .u64 x3] 24 (0, 0))) := (hbx.block _ (Array.getElem?_eq_some_iff.1 HBx.out).1).trans HBx.out
      replace HBy : Hid (wc.heap[w.heap.size + 1]? = some (.cells #[.int .u64 y0, .int .u64 y1, .int .u64 y2, .int .u64 y3] 24 (0, 0))) := (hbx.block _ (Array.getElem?_eq_some_iff.1 HBy.out).1).trans HBy.out
      replace HBW : Hid (Below w.heap.size w wc) := HBW.out.trans (hbx.mono HBW.out.size)
      have HBh := hideP gh
      clear gh hbx
      obtain ⟨cx0, cx1, cx2, cx3⟩ := cells4 HBx.out
      have hlx := (Array.getElem?_eq_some_iff.1 HBx.out).1
      obtain ⟨cy0, cy1, cy2, cy3⟩ := cells4 HBy.out
      have hly := (Array.getElem?_eq_some_iff.1 HBy.out).1
      obtain ⟨ch0, ch1, ch2, ch3⟩ := cells4 HBh.out
      have hlh := (Array.getElem?_eq_some_iff.1 HBh.out).1
      go_wp2_with fail
      refine wp_region_heldS (S := fun V => Below wc.heap.size wc V) (by kernel_rfl) (Below.refl _ _).drew (fun hS => ?_)
      refine wpAnyH_takeL (i := 0) (v := ?_) rfl (by kernel_rfl) (by kernel_rfl) (by kernel_rfl) (fun _ _ _ h => h) (Or.inl ⟨by kernel_rfl, ?_⟩) hS ?_
      rotate_left
      · intro V hV
        have k0 := (hV.cell (p := ⟨w.heap.size, 0, none⟩) hlx).trans cx0
        have k1 := (hV.cell (p := ⟨w.heap.size, 1, none⟩) hlx).trans cx1
        have k2 := (hV.cell (p := ⟨w.heap.size, 2, none⟩) hlx).trans cx2
        have k3 := (hV.cell (p := ⟨w.heap.size, 3, none⟩) hlx).trans cx3
        go_simp
        (try with_reducible rfl)
      simp only [put_list, List.set_cons_succ, List.set_cons_zero]
      refine wpAnyH_takeL (i := 2) (v := ?_) rfl (by kernel_rfl) (by kernel_rfl) (by kernel_rfl) (fun _ _ _ h => h) (Or.inl ⟨by kernel_rfl, ?_⟩) hS ?_
      rotate_left
      · intro V hV
        have k0 := (hV.cell (p := ⟨B, 0, none⟩) hlh).trans ch0
        have k1 := (hV.cell (p := ⟨B, 1, none⟩) hlh).trans ch1
        have k2 := (hV.cell (p := ⟨B, 2, none⟩) hlh).trans ch2
        have k3 := (hV.cell (p := ⟨B, 3, none⟩) hlh).trans ch3
        go_simp
        (try with_reducible rfl)
      simp only [put_list, List.set_cons_succ, List.set_cons_zero]
      refine wpAnyH_takeL (i := 5) (v := ?_) rfl (by kernel_rfl) (by kernel_rfl) (by kernel_rfl) (fun _ _ _ h => h) (Or.inl ⟨by kernel_rfl, ?_⟩) hS ?_
      rotate_left
      · intro V hV
        have k0 := (hV.cell (p := ⟨w.heap.size, 0, none⟩) hlx).trans cx0
        have k1 := (hV.cell (p := ⟨w.heap.size, 1, none⟩) hlx).trans cx1
        have k2 := (hV.cell (p := ⟨w.heap.size, 2, none⟩) hlx).trans cx2
        have k3 := (hV.cell (p := ⟨w.heap.size, 3, none⟩) hlx).trans cx3
        go_simp
        (try with_reducible rfl)
      simp only [put_list, List.set_cons_succ, List.set_cons_zero]
      refine wpAnyH_takeL (i := 6) (v := ?_) rfl (by kernel_rfl) (by kernel_rfl) (by kernel_rfl) (fun _ _ _ h => h) (Or.inl ⟨by kernel_rfl, ?_⟩) hS ?_
      rotate_left
      · intro V hV
        have k0 := (hV.cell (p := ⟨w.heap.size, 0, none⟩) hlx).trans cx0
        have k1 := (hV.cell (p := ⟨w.heap.size, 1, none⟩) hlx).trans cx1
        have k2 := (hV.cell (p := ⟨w.heap.size, 2, none⟩) hlx).trans cx2
        have k3 := (hV.cell (p := ⟨w.heap.size, 3, none⟩) hlx).trans cx3
        go_simp
        (try with_reducible rfl)
      simp only [put_list, List.set_cons_succ, List.set_cons_zero]
      refine wpAnyH_takeL (i := 8) (v := ?_) rfl (by kernel_rfl) (by kernel_rfl) (by kernel_rfl) (fun _ _ _ h => h) (Or.inl ⟨by kernel_rfl, ?_⟩) hS ?_
      rotate_left
      · intro V hV
        have k0 := (hV.cell (p := ⟨B, 0, none⟩) hlh).trans ch0
        have k1 := (hV.cell (p := ⟨B, 1, none⟩) hlh).trans ch1
        have k2 := (hV.cell (p := ⟨B, 2, none⟩) hlh).trans ch2
        have k3 := (hV.cell (p := ⟨B, 3, none⟩) hlh).trans ch3
        go_simp
        (try with_reducible rfl)
      simp only [put_list, List.set_cons_succ, List.set_cons_zero]
      refine wpAnyH_ready (rs := [1]) (by kernel_rfl) (by simp) (AllReadyH.cons rfl (fun K hK => ?_) AllReadyH.nil)
      go_simp
      refine (Ck6.out _).mono ?_
      rintro e U1 ⟨rfl, hbc⟩
      refine hK.out _ _ (hS.trans (hbc.mono hS.size)) (fun hS => ?_)
      clear hK K hbc
      refine wpAnyH_ready (rs := [3]) (by kernel_rfl) (by simp) (AllReadyH.cons rfl (fun K hK => ?_) AllReadyH.nil)
      go_simp
      refine (Ck8.out _).mono ?_
      rintro e U2 ⟨rfl, hbc⟩
      refine hK.out _ _ (hS.trans (hbc.mono hS.size)) (fun hS => ?_)
      clear hK K hbc
      refine wpAnyH_ready (rs := [4]) (by kernel_rfl) (by simp) (AllReadyH.cons rfl (fun K hK => ?_) AllReadyH.nil)
      go_simp
      refine (Ck9.out _).mono ?_
      rintro e U3 ⟨rfl, hbc⟩
      refine hK.out _ _ (hS.trans (hbc.mono hS.size)) (fun hS => ?_)
      clear hK K hbc
      refine wpAnyH_ready (rs := [7]) (by kernel_rfl) (by simp) (AllReadyH.cons rfl (fun K hK => ?_) AllReadyH.nil)
      go_simp
      refine (Ck10.out _).mono ?_
      rintro e U4 ⟨rfl, hbc⟩
      refine hK.out _ _ (hS.trans (hbc.mono hS.size)) (fun hS => ?_)
      clear hK K hbc
      refine wpAnyH_ready (rs := [9]) (by kernel_rfl) (by simp) (AllReadyH.cons rfl (fun K hK => ?_) AllReadyH.nil)
      go_simp
      refine (Ck11.out _).mono ?_
      rintro e U5 ⟨rfl, hbc⟩
      refine hK.out _ _ (hS.trans (hbc.mono hS.size)) (fun hS => ?_)
      clear hK K hbc
      refine wpAnyH_takeL (i := 10) (v := ?_) rfl (by kernel_rfl) (by kernel_rfl) (by kernel_rfl) (fun _ _ _ h => h) (Or.inl ⟨by kernel_rfl, ?_⟩) hS ?_
      rotate_left
      · intro V hV
        go_simp
        (try with_reducible rfl)
      simp only [put_list, List.set_cons_succ, List.set_cons_zero]
      refine wpAnyH_takeL (i := 11) (v := ?_) rfl (by kernel_rfl) (by kernel_rfl) (by kernel_rfl) (fun _ _ _ h => h) (Or.inl ⟨by kernel_rfl, ?_⟩) hS ?_
      rotate_left
      · intro V hV
        go_simp
        (try with_reducible rfl)
      simp only [put_list, List.set_cons_succ, List.set_cons_zero]
      refine wpAnyH_takeL (i := 12) (v := ?_) rfl (by kernel_rfl) (by kernel_rfl) (by kernel_rfl) (fun _ _ _ h => h) (Or.inl ⟨by kernel_rfl, ?_⟩) hS ?_
      rotate_left
      · intro V hV
        have k0 := (hV.cell (p := ⟨w.heap.size, 0, none⟩) hlx).trans cx0
        have k1 := (hV.cell (p := ⟨w.heap.size, 1, none⟩) hlx).trans cx1
        have k2 := (hV.cell (p := ⟨w.heap.size, 2, none⟩) hlx).trans cx2
        have k3 := (hV.cell (p := ⟨w.heap.size, 3, none⟩) hlx).trans cx3
        go_simp
        (try with_reducible rfl)
      simp only [put_list, List.set_cons_succ, List.set_cons_zero]
      refine wpAnyH_takeL (i := 13) (v := ?_) rfl (by kernel_rfl) (by kernel_rfl) (by kernel_rfl) (fun _ _ _ h => h) (Or.inl ⟨by kernel_rfl, ?_⟩) hS ?_
      rotate_left
      · intro V hV
        go_simp
        (try with_reducible rfl)
      simp only [put_list, List.set_cons_succ, List.set_cons_zero]
      refine wpAnyH_ready (rs := [14]) (by kernel_rfl) (by simp) (AllReadyH.cons rfl (fun K hK => ?_) AllReadyH.nil)
      go_simp
      refine (Ck12.out _).mono ?_
      rintro e U6 ⟨rfl, hbc⟩
      refine hK.out _ _ (hS.trans (hbc.mono hS.size)) (fun hS => ?_)
      clear hK K hbc
      refine wpAnyH_ready (rs := [15]) (by kernel_rfl) (by simp) (AllReadyH.cons rfl (fun K hK => ?_) AllReadyH.nil)
      go_simp
      refine (Ck6.out _).mono ?_
      rintro e U7 ⟨rfl, hbc⟩
      refine hK.out _ _ (hS.trans (hbc.mono hS.size)) (fun hS => ?_)
      clear hK K hbc
      refine wpAnyH_takeL (i := 16) (v := ?_) rfl (by kernel_rfl) (by kernel_rfl) (by kernel_rfl) (fun _ _ _ h => h) (Or.inl ⟨by kernel_rfl, ?_⟩) hS ?_
      rotate_left
      · intro V hV
        go_simp
        (try with_reducible rfl)
      simp only [put_list, List.set_cons_succ, List.set_cons_zero]
      refine wpAnyH_takeL (i := 17) (v := ?_) rfl (by kernel_rfl) (by kernel_rfl) (by kernel_rfl) (fun _ _ _ h => h) (Or.inl ⟨by kernel_rfl, ?_⟩) hS ?_
      rotate_left
      · intro V hV
        go_simp
        (try with_reducible rfl)
      simp only [put_list, List.set_cons_succ, List.set_cons_zero]
      refine wpAnyH_takeL (i := 18) (v := ?_) rfl (by kernel_rfl) (by kernel_rfl) (by kernel_rfl) (fun _ _ _ h => h) (Or.inl ⟨by kernel_rfl, ?_⟩) hS ?_
      rotate_left
      · intro V hV
        go_simp
        (try with_reducible rfl)
      simp only [put_list, List.set_cons_succ, List.set_cons_zero]
      refine wpAnyH_takeL (i := 19) (v := ?_) rfl (by kernel_rfl) (by kernel_rfl) (by kernel_rfl) (fun _ _ _ h => h) (Or.inl ⟨by kernel_rfl, ?_⟩) hS ?_
      rotate_left
      · intro V hV
        have k0 := (hV.cell (p := ⟨w.heap.size, 0, none⟩) hlx).trans cx0
        have k1 := (hV.cell (p := ⟨w.heap.size, 1, none⟩) hlx).trans cx1
        have k2 := (hV.cell (p := ⟨w.heap.size, 2, none⟩) hlx).trans cx2
        have k3 := (hV.cell (p := ⟨w.heap.size, 3, none⟩) hlx).trans cx3
        go_simp
        (try with_reducible rfl)
      simp only [put_list, List.set_cons_succ, List.set_cons_zero]
      refine wpAnyH_takeL (i := 22) (v := ?_) rfl (by kernel_rfl) (by kernel_rfl) (by kernel_rfl) (fun _ _ _ h => h) (Or.inl ⟨by kernel_rfl, ?_⟩) hS ?_
      rotate_left
      · intro V hV
        have k0 := (hV.cell (p := ⟨w.heap.size, 0, none⟩) hlx).trans cx0
        have k1 := (hV.cell (p := ⟨w.heap.size, 1, none⟩) hlx).trans cx1
        have k2 := (hV.cell (p := ⟨w.heap.size, 2, none⟩) hlx).trans cx2
        have k3 := (hV.cell (p := ⟨w.heap.size, 3, none⟩) hlx).trans cx3
        go_simp
        (try with_reducible rfl)
      simp only [put_list, List.set_cons_succ, List.set_cons_zero]
      refine wpAnyH_ready (rs := [20]) (by kernel_rfl) (by simp) (AllReadyH.cons rfl (fun K hK => ?_) AllReadyH.nil)
      go_simp
      refine (Ck6.out _).mono ?_
      rintro e U8 ⟨rfl, hbc⟩
      refine hK.out _ _ (hS.trans (hbc.mono hS.size)) (fun hS => ?_)
      clear hK K hbc
      refine wpAnyH_ready (rs := [21]) (by kernel_rfl) (by simp) (AllReadyH.cons rfl (fun K hK => ?_) AllReadyH.nil)
      go_simp
      refine (Ck13.out _).mono ?_
      rintro e U9 ⟨rfl, hbc⟩
      refine hK.out _ _ (hS.trans (hbc.mono hS.size)) (fun hS => ?_)
      clear hK K hbc
      refine wpAnyH_takeL (i := 23) (v := ?_) rfl (by kernel_rfl) (by kernel_rfl) (by kernel_rfl) (fun _ _ _ h => h) (Or.inl ⟨by kernel_rfl, ?_⟩) hS ?_
      rotate_left
      · intro V hV
        go_simp
        (try with_reducible rfl)
      simp only [put_list, List.set_cons_succ, List.set_cons_zero]
      refine wpAnyH_takeL (i := 24) (v := ?_) rfl (by kernel_rfl) (by kernel_rfl) (by kernel_rfl) (fun _ _ _ h => h) (Or.inl ⟨by kernel_rfl, ?_⟩) hS ?_
      rotate_left
      · intro V hV
        go_simp
        (try with_reducible rfl)
      simp only [put_list, List.set_cons_succ, List.set_cons_zero]
      refine wpAnyH_ready (rs := [25]) (by kernel_rfl) (by simp) (AllReadyH.cons rfl (fun K hK => ?_) AllReadyH.nil)
      go_simp
      refine hK.out _ _ hS (fun hS => ?_)
      clear hK K
      refine wpAnyH_done (by kernel_rfl) ?_ _
      go_wp2_with fail
      go_ret
      exact ⟨rfl, HBW.out.trans (hS.mono HBW.out.size)⟩

end Go.Proofs.Ytpnijncoldihfaa
