/-
  Division by words of 4 limbs.
-/
import Derived.Test.YtpnijncoldihfaaTextsC31
namespace Go.Proofs.Ytpnijncoldihfaa
open Go.RowKit Go.Shelf

set_option maxHeartbeats 8000000 in
set_option maxRecDepth 100000 in
theorem divideByLimbs_4 (N Y : Nat) (hN : N < 18446744073709551616 ^ 8) (hlo : 18446744073709551616 ^ 3 ≤ Y) (hhi : Y < 18446744073709551616 ^ 4) (w : World) :
    Calls Try.prog 122 #[w8 N, wv Y, .int .i64 4] w fun e w' => e = .returned (.tuple #[w8 (N / Y), wv (N % Y)]) ∧ Below w.heap.size w w' := by
  obtain ⟨s, hs⟩ : ∃ s, s = 64 - Lib.bitLen (limb Y 3) := ⟨_, rfl⟩
  obtain ⟨hs64, hV1, hV2⟩ := raised_divisor (n := 4) (by omega) hlo hhi hs
  have hlz := fun W => lz64_any (limb Y 3) W (limb_lt _ _)
  rw [← hs] at hlz
  have hof := fun W => of_any s (by omega) W
  have hsl := fun W => shl_any s Y W
  rw [small_mod (by omega : s < 18446744073709551616)] at hsl
  have hshl : shlN s Y = Y * 2 ^ s := by unfold shlN; rw [if_pos (by omega)]
  rw [hshl] at hsl
  have hra := fun W => raise_any N s hN hs64 W
  have hsr := fun Z W => shr_any s Z W
  rw [small_mod (by omega : s < 18446744073709551616)] at hsr
  obtain ⟨V, hV⟩ : ∃ V, V = Y * 2 ^ s := ⟨_, rfl⟩
  obtain ⟨U, hU⟩ : ∃ U, U = N * 2 ^ s := ⟨_, rfl⟩
  rw [← hV] at hsl hV1 hV2
  rw [← hU] at hra
  obtain ⟨RES, hRES⟩ : ∃ RES, RES = Value.tuple #[w8 (N / Y), wv (N % Y)] := ⟨_, rfl⟩
  rw [← hRES]
  have HRES := hideP hRES
  have HF : Hid (s < 64 ∧ V < 18446744073709551616 ^ 4 ∧ 18446744073709551616 ^ 4 ≤ 2 * V ∧ V = Y * 2 ^ s ∧ U = N * 2 ^ s ∧ N < 18446744073709551616 ^ 8 ∧ 18446744073709551616 ^ 3 ≤ Y ∧ Y < 18446744073709551616 ^ 4) := ⟨hs64, hV1, hV2, hV, hU, hN, hlo, hhi⟩
  have hu := fun W (h : ∀ j, j < 8 → W.cell? ⟨w.heap.size, j, none⟩ = some (.int .u64 (limb N j))) => used_any W w.heap.size 8 8 (limb N) (by omega) h
  obtain ⟨o0, o1, o2, o3, hO⟩ := wv_form s
  have hws : IntKind.u64.wrap (s : Int) = s := M64.wrapN s (by omega)
  unfold w8 at *
  simp only [wv_limb Y, wv_limb V, hO] at hsl hof
  rw [wv_limb Y]
  have HLZ := hideP hlz
  have HOF := hideP hof
  have HSL := hideP hsl
  have HRA := hideP hra
  have HSR := hideP hsr
  have HU := hideP hu
  have HO := hideP hO
  clear hlz hof hsl hra hsr hu hO hRES hshl hs hs64 hV1 hV2 hN hlo hhi hV hU
  go_enter Try.func122, Try.ntmps122
  go_wp2_with fail
  refine (HLZ.out _).mono ?_
  rintro e W1 ⟨rfl, hW1⟩
  have HBx : W1.heap[w.heap.size]? = some (.cells #[.int .u64 (limb N 0), .int .u64 (limb N 1), .int .u64 (limb N 2), .int .u64 (limb N 3), .int .u64 (limb N 4), .int .u64 (limb N 5), .int .u64 (limb N 6), .int .u64 (limb N 7)] 36 (0, 0)) := by
    rw [← hW1, heap_old _ _ (by simp <;> omega), heap_old _ _ (by simp <;> omega), heap_old _ _ (by simp <;> omega)]
    exact heap_new _ _
  have HBy : W1.heap[w.heap.size + 1]? = some (.cells #[.int .u64 (limb Y 0), .int .u64 (limb Y 1), .int .u64 (limb Y 2), .int .u64 (limb Y 3)] 24 (0, 0)) := by
    rw [← hW1, heap_old _ _ (by simp <;> omega), heap_old _ _ (by simp <;> omega)]
    exact heap_new1 _ _ _
  have HBq : W1.heap[w.heap.size + 1 + 1]? = some (.cells #[.int .u64 0, .int .u64 0, .int .u64 0, .int .u64 0, .int .u64 0, .int .u64 0, .int .u64 0, .int .u64 0] 36 (0, 0)) := by
    rw [← hW1, heap_old _ _ (by simp <;> omega)]
    exact heap_new2 _ _ _ _
  have HBr : W1.heap[w.heap.size + 1 + 1 + 1]? = some (.cells #[.int .u64 0, .int .u64 0, .int .u64 0, .int .u64 0] 24 (0, 0)) := by
    rw [← hW1]
    exact heap_new3 _ _ _ _ _
  have HBW : Hid (Below w.heap.size w W1) := by
    show Below _ _ _
    rw [← hW1]
    exact ((((Below.refl _ w).alloc (Nat.le_refl _) _).alloc (by simp) _).alloc (by simp <;> omega) _).alloc (by simp <;> omega) _
  have HX := hideP HBx
  have HY := hideP HBy
  have HQ := hideP HBq
  have HR := hideP HBr
  clear hW1 HBx HBy HBq HBr
  go_wp2_with fail
  go_cut [8] (fun r wx => r = .int .u64 s ∧ KeepR W1 (w.heap.size + 1) wx ∧ wx.heap[w.heap.size + 1]? = some (.cells #[.int .u64 (limb V 0), .int .u64 (limb V 1), .int .u64 (limb V 2), .int .u64 (limb V 3)] 24 (0, 0)))
  case first =>
    refine wp_region_heldS (S := KeepR W1 (w.heap.size + 1)) (by kernel_rfl) (KeepR.init HY.out) (fun hS => ?_)
    refine wpAnyH_takeL (i := 0) (v := ?_) rfl (by kernel_rfl) (by kernel_rfl) (by kernel_rfl) (fun _ _ _ h => h) (Or.inl ⟨by kernel_rfl, ?_⟩) hS ?_
    rotate_left
    · intro V hV
      go_simp
      (try with_reducible rfl)
    simp only [put_list, List.set_cons_succ, List.set_cons_zero]
    refine wpAnyH_ready (rs := [1, 2]) (by kernel_rfl) (by simp) (AllReadyH.cons rfl (fun K hK => ?_) (AllReadyH.cons rfl (fun K hK => ?_) AllReadyH.nil))
    · go_simp
      refine (HOF.out _).mono ?_
      rintro e U1 ⟨rfl, hbc⟩
      have hy1 := (hbc.block _ (lt_of_block HY.out)).trans HY.out
      refine hK.out _ _ (hS.call hbc) (fun hS => ?_)
      clear hK K hbc
      obtain ⟨k0, k1, k2, k3⟩ := cells4 hy1
      refine wpAnyH_ready (rs := [2]) (by kernel_rfl) (by simp) (AllReadyH.cons rfl (fun K hK => ?_) AllReadyH.nil)
      go_simp
      refine hK.out _ _ hS (fun hS => ?_)
      clear hK K k0 k1 k2 k3
      refine wpAnyH_ready (rs := [3]) (by kernel_rfl) (by simp) (AllReadyH.cons rfl (fun K hK => ?_) AllReadyH.nil)
      go_simp
      refine (HSL.out _).mono ?_
      rintro e U2 ⟨rfl, hbc⟩
      refine hK.out _ _ (hS.call hbc) (fun hS => ?_)
      clear hK K hbc
      obtain ⟨r0, r1, r2, r3, j0, j1, j2, j3, jf⟩ := hS.room
      obtain ⟨z0, z1, z2, z3, hz⟩ := hS.res
      have hst := stored4 (z0 := .int .u64 (limb V 0)) (z1 := .int .u64 (limb V 1)) (z2 := .int .u64 (limb V 2)) (z3 := .int .u64 (limb V 3)) hz
      refine wpAnyH_ready (rs := [4]) (by kernel_rfl) (by simp) (AllReadyH.cons rfl (fun K hK => ?_) AllReadyH.nil)
      go_simp
      refine hK.out _ _ (hS.store _ _ _ _) (fun hS => wpAnyH_done (by kernel_rfl) ?_ _)
      clear hK K j0 j1 j2 j3 jf
      go_wp2_with fail
      go_meet
      exact ⟨rfl, hS, hst⟩
    · obtain ⟨k0, k1, k2, k3⟩ := cells4 HY.out
      go_simp
      refine hK.out _ _ hS (fun hS => ?_)
      clear hK K k0 k1 k2 k3
      refine wpAnyH_ready (rs := [1]) (by kernel_rfl) (by simp) (AllReadyH.cons rfl (fun K hK => ?_) AllReadyH.nil)
      go_simp
      refine (HOF.out _).mono ?_
      rintro e U1 ⟨rfl, hbc⟩
      have hy1 := (hbc.block _ (lt_of_block HY.out)).trans HY.out
      refine hK.out _ _ (hS.call hbc) (fun hS => ?_)
      clear hK K hbc
      refine wpAnyH_ready (rs := [3]) (by kernel_rfl) (by simp) (AllReadyH.cons rfl (fun K hK => ?_) AllReadyH.nil)
      go_simp
      refine (HSL.out _).mono ?_
      rintro e U2 ⟨rfl, hbc⟩
      refine hK.out _ _ (hS.call hbc) (fun hS => ?_)
      clear hK K hbc
      obtain ⟨r0, r1, r2, r3, j0, j1, j2, j3, jf⟩ := hS.room
      obtain ⟨z0, z1, z2, z3, hz⟩ := hS.res
      have hst := stored4 (z0 := .int .u64 (limb V 0)) (z1 := .int .u64 (limb V 1)) (z2 := .int .u64 (limb V 2)) (z3 := .int .u64 (limb V 3)) hz
      refine wpAnyH_ready (rs := [4]) (by kernel_rfl) (by simp) (AllReadyH.cons rfl (fun K hK => ?_) AllReadyH.nil)
      go_simp
      refine hK.out _ _ (hS.store _ _ _ _) (fun hS => wpAnyH_done (by kernel_rfl) ?_ _)
      clear hK K j0 j1 j2 j3 jf
      go_wp2_with fail
      go_meet
      exact ⟨rfl, hS, hst⟩
  case rest =>
    obtain ⟨rfl, hK1, hVb⟩ := hcut
    replace HX := hideP ((hK1.same _ (lt_of_block HX.out) (by omega)).trans HX.out)
    replace HQ := hideP ((hK1.same _ (lt_of_block HQ.out) (by omega)).trans HQ.out)
    replace HR := hideP ((hK1.same _ (lt_of_block HR.out) (by omega)).trans HR.out)
    replace HY := hideP hVb
    replace HBW : Hid (Below w.heap.size w wc) := HBW.out.trans (hK1.below.mono (by omega))
    clear hK1 hVb
    obtain ⟨cx0, cx1, cx2, cx3, cx4, cx5, cx6, cx7⟩ := cells8 HX.out
    go_wp2_with fail
    refine (HRA.out _).mono ?_
    rintro e W2 ⟨rfl, hb⟩
    clear cx0 cx1 cx2 cx3 cx4 cx5 cx6 cx7
    replace HX := hideP ((hb.block _ (lt_of_block HX.out)).trans HX.out)
    replace HQ := hideP ((hb.block _ (lt_of_block HQ.out)).trans HQ.out)
    replace HR := hideP ((hb.block _ (lt_of_block HR.out)).trans HR.out)
    replace HY := hideP ((hb.block _ (lt_of_block HY.out)).trans HY.out)
    replace HBW : Hid (Below w.heap.size w W2) := HBW.out.trans (hb.mono HBW.out.size)
    clear hb
    unfold c9
    go_wp2_with fail
    refine at_world_c (fun W3 hW3 => ?_)
    have HL : Hid (W3.heap[W2.heap.size]? = some (.cells (c9 (limb U)) 113 (0, 0))) := by
      show _ = _
      rw [hW3]
      exact heap_new _ _
    have hb : Below W2.heap.size W2 W3 := by
      rw [hW3]
      exact (Below.refl _ _).alloc (Nat.le_refl _) _
    have HLT : Hid (w.heap.size + 1 + 1 + 1 < W2.heap.size) := lt_of_block HR.out
    replace HX := hideP ((hb.block _ (lt_of_block HX.out)).trans HX.out)
    replace HQ := hideP ((hb.block _ (lt_of_block HQ.out)).trans HQ.out)
    replace HR := hideP ((hb.block _ (lt_of_block HR.out)).trans HR.out)
    replace HY := hideP ((hb.block _ (lt_of_block HY.out)).trans HY.out)
    replace HBW : Hid (Below w.heap.size w W3) := HBW.out.trans (hb.mono HBW.out.size)
    clear hb hW3
    generalize W2.heap.size = B9 at *
    refine (HU.out _ (fun j hj => blk_cell HX.out (get8 _ hj))).mono ?_
    rintro e W4 ⟨⟨u, rfl, hu8, hz, _⟩, rfl⟩
    have HT : Hid (N < 18446744073709551616 ^ u) := top_zero HF.out.2.2.2.2.2.1 hz (8 - u) (by omega)
    obtain ⟨pl, hpl⟩ : ∃ pl : Nat, pl = u + 1 - 4 := ⟨_, rfl⟩
    obtain ⟨p, hp⟩ : ∃ p : Int, p = (u : Int) - 4 + 1 := ⟨_, rfl⟩
    have hwp : IntKind.i64.wrap ((u : Int) - 4) = (u : Int) - 4 := by rw [IntKind.wrap_i64]; omega
    have hwp1 : IntKind.i64.wrap ((u : Int) - 4 + 1) = p := by rw [IntKind.wrap_i64]; omega
    have HP : Hid (u ≤ 8 ∧ pl = u + 1 - 4 ∧ p = (u : Int) - 4 + 1) := ⟨hu8, hpl, hp⟩
    have HI0 : Hid (KI w W3 B9 V U pl (limb V)) := by
      refine ⟨HY.out, ⟨fun _ => 0, limb U, HQ.out, fun _ => (by decide : 0 < 18446744073709551616), fun _ _ => rfl, HL.out, fun j => limb_lt U j, ?_, ?_⟩, HR.out, HBW.out, HLT.out⟩
      · rw [val_limb, Nat.mod_eq_of_lt (start_lt9 HF.out.1 HF.out.2.2.2.2.1 HF.out.2.2.2.2.2.1)]
        simp [val]
      · rw [val_limb, Nat.mod_eq_of_lt (start_lt9 HF.out.1 HF.out.2.2.2.2.1 HF.out.2.2.2.2.2.1)]
        exact start_lt HF.out.1 HF.out.2.2.1 HF.out.2.2.2.2.1 HT.out hpl HF.out.2.2.2.1 HF.out.2.2.2.2.2.2.1 (by omega)
    clear hz hu8 hpl hp HX HY HQ HR HL HLT HBW HU
    go_wp2_with fail
    go_loopw [34] (fun i wr => ∃ k : Nat, k ≤ pl ∧ i = .int .i64 k ∧ KI w wr B9 V U (pl - k) (limb V)) (fun i _ => pl - (intOf i).toNat)
    case atStart => exact ⟨0, Nat.zero_le _, rfl, HI0.out⟩
    case round =>
      obtain ⟨k, hk, rfl, I⟩ := hrel
      have HI := hideP I
      clear I HI0
      by_cases hlt : k < pl
      · obtain ⟨hu8, hpl, hp⟩ := HP.out
        obtain ⟨a, ha⟩ : ∃ a, a = pl - 1 - k := ⟨_, rfl⟩
        have hm : pl - k = a + 1 := by omega
        have han : a + 4 < 9 := by omega
        have hltp : (k : Int) < p := by omega
        have hw0 : IntKind.i64.wrap 0 = 0 := rfl
        have hw1 : IntKind.i64.wrap 1 = 1 := rfl
        have hw2 : IntKind.i64.wrap 2 = 2 := rfl
        have hw3 : IntKind.i64.wrap 3 = 3 := rfl
        have e1 : IntKind.i64.wrap (p - 1) = p - 1 := by rw [IntKind.wrap_i64]; omega
        have e2 : IntKind.i64.wrap (p - 1 - k) = (a : Int) := by rw [IntKind.wrap_i64]; omega
        have e3 : IntKind.i64.wrap ((a : Int) + 4) = (a : Int) + 4 := by rw [IntKind.wrap_i64]; omega
        have e5 : IntKind.i64.wrap ((a : Int) + 4 + 1) = (a : Int) + 4 + 1 := by rw [IntKind.wrap_i64]; omega
        have e4 : IntKind.i64.wrap ((k : Int) + 1) = (k : Int) + 1 := by rw [IntKind.wrap_i64]; omega
        have hsl9 : ∀ W : World, (Instr.sliceAt 113 (.pointer (some ⟨B9, 0, none⟩)) (some (.int .i64 (a : Int))) (some (.int .i64 ((a : Int) + 4 + 1))) none).run Try.prog W = .ok (.slice (some ⟨B9, a, none⟩) 5 (9 - a)) W := fun W => slice9 B9 a 4 han W
        have HA : Hid (a + 4 < 9 ∧ k + 1 ≤ pl ∧ pl - (k + 1) = a) := ⟨han, hlt, by omega⟩
        have I := HI.out
        rw [hm] at I
        obtain ⟨g, lg, hq, hgl, hgz, hL, hll, hU, hlt9⟩ := I.q
        obtain ⟨hsp, hPV, hhi⟩ := part_split HF.out.2.1 han hlt9
        have hVy : V = val (limb V) 4 := by rw [val_limb, Nat.mod_eq_of_lt HF.out.2.1]
        have hfi : 18446744073709551616 ≤ 2 * limb V 3 := by
          have h1 := HF.out.2.1
          have h2 := HF.out.2.2.1
          unfold limb
          omega
        obtain ⟨G, hG, hGc⟩ : ∃ G : Nat, (val (fun j => lg (a + j)) 5 / V ≤ G ∧ G ≤ val (fun j => lg (a + j)) 5 / V + 1 ∧ G < 18446744073709551616) ∧
            ∀ W, Calls Try.prog 130 #[.int .u64 (lg (a + 4)), .int .u64 (lg (a + 3)), .int .u64 (lg (a + 2)), .int .u64 (limb V 3), .int .u64 (limb V 2)] W fun e w' => e = .returned (.int .u64 (G : Nat)) ∧ ∃ m, w' = W.drewN m := by
          rcases Nat.lt_or_ge (lg (a + 4)) (limb V 3) with h | h
          · exact ⟨_, round_guess (k := 2) hll (limb_lt V) hVy hfi hPV (Or.inl ⟨h, rfl, rfl⟩), fun W => guessLimb_lt _ _ _ _ _ h (limb_lt _ _) (hll _) (hll _) (limb_lt _ _) W⟩
          · exact ⟨_, round_guess (k := 2) hll (limb_lt V) hVy hfi hPV (Or.inr ⟨h, rfl, rfl⟩), fun W => guessLimb_ge _ _ _ _ _ h (limb_lt _ _) (hll _) (hll _) (limb_lt _ _) W⟩
        have HG := hideP hGc
        have f2 := blk_cell hL (get9 lg (show a + 4 < 9 by omega))
        have f1 := blk_cell hL (get9 lg (show a + 3 < 9 by omega))
        have f0 := blk_cell hL (get9 lg (show a + 2 < 9 by omega))
        have y1 := blk_cell I.y (get4 (limb V) (show 3 < 4 by omega))
        have y0 := blk_cell I.y (get4 (limb V) (show 2 < 4 by omega))
        have hlB := lt_of_block hL
        have hly := lt_of_block I.y
        have HH := hideP (⟨hsp, hhi, hPV, hU, hgl, hgz, hll, hq, hL⟩ : _ ∧ _ ∧ _ ∧ _ ∧ _ ∧ _ ∧ _ ∧ _ ∧ _)
        have HII := hideP I
        have HGB := hideP hG
        clear hsp hhi hPV hU hgl hgz hll hq hL hVy hfi hG hGc I hm ha han hlt hk hu8 hpl hp hlt9
        go_wp2_with fail
        refine wp_region_heldS (S := fun V => Below wr.heap.size wr V) (by kernel_rfl) (Below.refl _ _).drew (fun hS => ?_)
        refine wpAnyH_takeL (i := 0) (v := ?_) rfl (by kernel_rfl) (by kernel_rfl) (by kernel_rfl) (fun _ _ _ h => h) (Or.inl ⟨by kernel_rfl, ?_⟩) hS ?_
        rotate_left
        · intro V hV
          go_simp
          (try with_reducible rfl)
        simp only [put_list, List.set_cons_succ, List.set_cons_zero]
        refine wpAnyH_takeL (i := 1) (v := ?_) rfl (by kernel_rfl) (by kernel_rfl) (by kernel_rfl) (fun _ _ _ h => h) (Or.inl ⟨by kernel_rfl, ?_⟩) hS ?_
        rotate_left
        · intro V hV
          go_simp
          (try with_reducible rfl)
        simp only [put_list, List.set_cons_succ, List.set_cons_zero]
        refine wpAnyH_takeL (i := 2) (v := ?_) rfl (by kernel_rfl) (by kernel_rfl) (by kernel_rfl) (fun _ _ _ h => h) (Or.inl ⟨by kernel_rfl, ?_⟩) hS ?_
        rotate_left
        · intro V hV
          go_simp
          (try with_reducible rfl)
        simp only [put_list, List.set_cons_succ, List.set_cons_zero]
        refine wpAnyH_takeL (i := 3) (v := ?_) rfl (by kernel_rfl) (by kernel_rfl) (by kernel_rfl) (fun _ _ _ h => h) (Or.inl ⟨by kernel_rfl, ?_⟩) hS ?_
        rotate_left
        · intro V hV
          have k0 := (hV.cell (p := ⟨B9, a + 4, none⟩) hlB).trans f2
          go_simp
          (try with_reducible rfl)
        simp only [put_list, List.set_cons_succ, List.set_cons_zero]
        refine wpAnyH_takeL (i := 4) (v := ?_) rfl (by kernel_rfl) (by kernel_rfl) (by kernel_rfl) (fun _ _ _ h => h) (Or.inl ⟨by kernel_rfl, ?_⟩) hS ?_
        rotate_left
        · intro V hV
          go_simp
          (try with_reducible rfl)
        simp only [put_list, List.set_cons_succ, List.set_cons_zero]
        refine wpAnyH_takeL (i := 5) (v := ?_) rfl (by kernel_rfl) (by kernel_rfl) (by kernel_rfl) (fun _ _ _ h => h) (Or.inl ⟨by kernel_rfl, ?_⟩) hS ?_
        rotate_left
        · intro V hV
          go_simp
          (try with_reducible rfl)
        simp only [put_list, List.set_cons_succ, List.set_cons_zero]
        refine wpAnyH_takeL (i := 6) (v := ?_) rfl (by kernel_rfl) (by kernel_rfl) (by kernel_rfl) (fun _ _ _ h => h) (Or.inl ⟨by kernel_rfl, ?_⟩) hS ?_
        rotate_left
        · intro V hV
          go_simp
          (try with_reducible rfl)
        simp only [put_list, List.set_cons_succ, List.set_cons_zero]
        refine wpAnyH_takeL (i := 7) (v := ?_) rfl (by kernel_rfl) (by kernel_rfl) (by kernel_rfl) (fun _ _ _ h => h) (Or.inl ⟨by kernel_rfl, ?_⟩) hS ?_
        rotate_left
        · intro V hV
          go_simp
          (try with_reducible rfl)
        simp only [put_list, List.set_cons_succ, List.set_cons_zero]
        refine wpAnyH_takeL (i := 8) (v := ?_) rfl (by kernel_rfl) (by kernel_rfl) (by kernel_rfl) (fun _ _ _ h => h) (Or.inl ⟨by kernel_rfl, ?_⟩) hS ?_
        rotate_left
        · intro V hV
          have k0 := (hV.cell (p := ⟨B9, a + 3, none⟩) hlB).trans f1
          go_simp
          (try with_reducible rfl)
        simp only [put_list, List.set_cons_succ, List.set_cons_zero]
        refine wpAnyH_takeL (i := 9) (v := ?_) rfl (by kernel_rfl) (by kernel_rfl) (by kernel_rfl) (fun _ _ _ h => h) (Or.inl ⟨by kernel_rfl, ?_⟩) hS ?_
        rotate_left
        · intro V hV
          go_simp
          (try with_reducible rfl)
        simp only [put_list, List.set_cons_succ, List.set_cons_zero]
        refine wpAnyH_takeL (i := 10) (v := ?_) rfl (by kernel_rfl) (by kernel_rfl) (by kernel_rfl) (fun _ _ _ h => h) (Or.inl ⟨by kernel_rfl, ?_⟩) hS ?_
        rotate_left
        · intro V hV
          go_simp
          (try with_reducible rfl)
        simp only [put_list, List.set_cons_succ, List.set_cons_zero]
        refine wpAnyH_takeL (i := 11) (v := ?_) rfl (by kernel_rfl) (by kernel_rfl) (by kernel_rfl) (fun _ _ _ h => h) (Or.inl ⟨by kernel_rfl, ?_⟩) hS ?_
        rotate_left
        · intro V hV
          go_simp
          (try with_reducible rfl)
        simp only [put_list, List.set_cons_succ, List.set_cons_zero]
        refine wpAnyH_takeL (i := 12) (v := ?_) rfl (by kernel_rfl) (by kernel_rfl) (by kernel_rfl) (fun _ _ _ h => h) (Or.inl ⟨by kernel_rfl, ?_⟩) hS ?_
        rotate_left
        · intro V hV
          go_simp
          (try with_reducible rfl)
        simp only [put_list, List.set_cons_succ, List.set_cons_zero]
        refine wpAnyH_takeL (i := 13) (v := ?_) rfl (by kernel_rfl) (by kernel_rfl) (by kernel_rfl) (fun _ _ _ h => h) (Or.inl ⟨by kernel_rfl, ?_⟩) hS ?_
        rotate_left
        · intro V hV
          have k0 := (hV.cell (p := ⟨B9, a + 2, none⟩) hlB).trans f0
          go_simp
          (try with_reducible rfl)
        simp only [put_list, List.set_cons_succ, List.set_cons_zero]
        refine wpAnyH_takeL (i := 14) (v := ?_) rfl (by kernel_rfl) (by kernel_rfl) (by kernel_rfl) (fun _ _ _ h => h) (Or.inl ⟨by kernel_rfl, ?_⟩) hS ?_
        rotate_left
        · intro V hV
          go_simp
          (try with_reducible rfl)
        simp only [put_list, List.set_cons_succ, List.set_cons_zero]
        refine wpAnyH_takeL (i := 15) (v := ?_) rfl (by kernel_rfl) (by kernel_rfl) (by kernel_rfl) (fun _ _ _ h => h) (Or.inl ⟨by kernel_rfl, ?_⟩) hS ?_
        rotate_left
        · intro V hV
          go_simp
          (try with_reducible rfl)
        simp only [put_list, List.set_cons_succ, List.set_cons_zero]
        refine wpAnyH_takeL (i := 16) (v := ?_) rfl (by kernel_rfl) (by kernel_rfl) (by kernel_rfl) (fun _ _ _ h => h) (Or.inl ⟨by kernel_rfl, ?_⟩) hS ?_
        rotate_left
        · intro V hV
          go_simp
          (try with_reducible rfl)
        simp only [put_list, List.set_cons_succ, List.set_cons_zero]
        refine wpAnyH_takeL (i := 17) (v := ?_) rfl (by kernel_rfl) (by kernel_rfl) (by kernel_rfl) (fun _ _ _ h => h) (Or.inl ⟨by kernel_rfl, ?_⟩) hS ?_
        rotate_left
        · intro V hV
          have k0 := (hV.cell (p := ⟨w.heap.size + 1, 3, none⟩) hly).trans y1
          go_simp
          (try with_reducible rfl)
        simp only [put_list, List.set_cons_succ, List.set_cons_zero]
        refine wpAnyH_takeL (i := 18) (v := ?_) rfl (by kernel_rfl) (by kernel_rfl) (by kernel_rfl) (fun _ _ _ h => h) (Or.inl ⟨by kernel_rfl, ?_⟩) hS ?_
        rotate_left
        · intro V hV
          go_simp
          (try with_reducible rfl)
        simp only [put_list, List.set_cons_succ, List.set_cons_zero]
        refine wpAnyH_takeL (i := 19) (v := ?_) rfl (by kernel_rfl) (by kernel_rfl) (by kernel_rfl) (fun _ _ _ h => h) (Or.inl ⟨by kernel_rfl, ?_⟩) hS ?_
        rotate_left
        · intro V hV
          go_simp
          (try with_reducible rfl)
        simp only [put_list, List.set_cons_succ, List.set_cons_zero]
        refine wpAnyH_takeL (i := 20) (v := ?_) rfl (by kernel_rfl) (by kernel_rfl) (by kernel_rfl) (fun _ _ _ h => h) (Or.inl ⟨by kernel_rfl, ?_⟩) hS ?_
        rotate_left
        · intro V hV
          go_simp
          (try with_reducible rfl)
        simp only [put_list, List.set_cons_succ, List.set_cons_zero]
        refine wpAnyH_takeL (i := 21) (v := ?_) rfl (by kernel_rfl) (by kernel_rfl) (by kernel_rfl) (fun _ _ _ h => h) (Or.inl ⟨by kernel_rfl, ?_⟩) hS ?_
        rotate_left
        · intro V hV
          have k0 := (hV.cell (p := ⟨w.heap.size + 1, 2, none⟩) hly).trans y0
          go_simp
          (try with_reducible rfl)
        simp only [put_list, List.set_cons_succ, List.set_cons_zero]
        refine wpAnyH_ready (rs := [22]) (by kernel_rfl) (by simp) (AllReadyH.cons rfl (fun K hK => ?_) AllReadyH.nil)
        go_simp
        refine (HG.out _).mono ?_
        rintro e U1 ⟨rfl, nq, hnq⟩
        have hbc : Below wr.drew.heap.size wr.drew U1 := by rw [hnq]; exact below_drewN (Below.refl _ _) nq
        clear hnq nq
        refine hK.out _ _ (hS.trans (hbc.mono hS.size)) (fun hS => ?_)
        clear hK K hbc
        refine wpAnyH_ready (rs := [23]) (by kernel_rfl) (by simp) (AllReadyH.cons rfl (fun K hK => ?_) AllReadyH.nil)
        go_simp
        refine hK.out _ _ hS (fun hS => ?_)
        clear hK K
        refine wpAnyH_done (by kernel_rfl) ?_ _
        go_wp2_with fail
        obtain ⟨hsp, hhi, hPV, hU, hgl, hgz, hll, hq, hL⟩ := HH.out
        have hL1 := (hS.block _ hlB).trans hL
        have hyb := (hS.block _ hly).trans HII.out.y
        have hq1 := (hS.block _ (lt_of_block hq)).trans hq
        have hr1 := (hS.block _ (lt_of_block HII.out.r)).trans HII.out.r
        have hb1 := HII.out.b.trans (hS.mono HII.out.b.size)
        have hltB := HII.out.lt
        have hVpos : 0 < V := by have := HF.out.2.2.1; omega
        have hVM : V < 18446744073709551616 ^ (4 + 1) := Nat.lt_of_lt_of_le HF.out.2.1 (Nat.pow_le_pow_right (by decide) (by omega))
        have hVy : val (limb V) 4 = V := by rw [val_limb, Nat.mod_eq_of_lt HF.out.2.1]
        refine (subtractProduct_any U1 B9 (w.heap.size + 1) a 4 G (9 - a) 4 lg (limb V) HA.out.1 hll (limb_lt V) HGB.out.2.2 (by omega) hL1 (fun j hj => blk_cell hyb (get4 (limb V) (by omega)))).mono ?_
        rintro e V1 ⟨lg1, c, rfl, hc, hl1, hf1, hs1, hLv, hbut⟩
        rw [hVy] at hs1
        have hrs := round_sub hVpos hVM HGB.out.1 HGB.out.2.1 (val_lt (4 + 1) (fun j _ => hl1 _)) hc hs1
        have hyb2 := (hbut.same _ (by omega)).trans hyb
        have hq2 := (hbut.same _ (by omega)).trans hq1
        have hr2 := (hbut.same _ (by omega)).trans hr1
        have hb2 : Below w.heap.size w V1 := hb1.trans (hbut.below.mono (by omega))
        have ha8 : (a : Int) < 8 := by have := HA.out.1; omega
        rcases (show c = 0 ∨ c = 1 by omega) with h0 | h0
        · subst h0
          obtain ⟨hGq, hP1⟩ := hrs.1 rfl
          have hnx := round_next hll hVpos HA.out.1 hsp hf1 hhi hP1
          rw [← hGq] at hnx
          have HK := hideP (KI.next hyb2 hq2 hgl hgz hLv hl1 hr2 hb2 hltB (by have := HA.out.1; omega) hU hnx HGB.out.2.2)
          have cq := blk_cell hq2 (get8 g (show a < 8 by have := HA.out.1; omega))
          have fq : ∀ o, V1.frozen? ⟨w.heap.size + 1 + 1, o, none⟩ = false := fun o => blk_free hq2
          clear hsp hhi hPV hU hgl hgz hll hq hL hL1 hyb hq1 hr1 hb1 hltB hVpos hVM hVy hc hl1 hf1 hs1 hLv hbut hrs hyb2 hq2 hr2 hb2 hGq hP1 hnx f0 f1 f2 y0 y1 hlB hly hS
          go_wp2_with fail
          refine ⟨⟨k + 1, HA.out.2.1, by go_num, ?_⟩, by have := HA.out.2.1; simp [intOf]; omega⟩
          rw [HA.out.2.2]
          exact HK.out
        · subst h0
          obtain ⟨hGq, hP2⟩ := hrs.2 rfl
          have hG1 : 1 ≤ G := by rw [hGq]; exact Nat.le_add_left 1 _
          have hwG : IntKind.u64.wrap ((G : Int) - 1) = ((G - 1 : Nat) : Int) := by rw [IntKind.wrap_u64]; have := HGB.out.2.2; omega
          have HX1 := hideP (⟨hsp, hhi, hU, hgl, hgz, hll, hl1, hf1, hq2, hr2, hb2, hltB, hVpos, hGq, hVy⟩ : _ ∧ _ ∧ _ ∧ _ ∧ _ ∧ _ ∧ _ ∧ _ ∧ _ ∧ _ ∧ _ ∧ _ ∧ _ ∧ _ ∧ _)
          have HX2 := hideP hP2
          have HX3 := hideP (⟨hLv, hyb2⟩ : _ ∧ _)
          clear hsp hhi hPV hU hgl hgz hll hq hL hL1 hyb hq1 hr1 hb1 hVM hc hl1 hf1 hs1 hLv hbut hrs hyb2 hq2 hr2 hb2 hGq hP2 hG1 f0 f1 f2 y0 y1 hlB hly hS hltB hVpos hVy
          go_wp2_with fail
          refine (addBack_any V1 B9 (w.heap.size + 1) a 4 (9 - a) 4 lg1 (limb V) HA.out.1 HX1.out.2.2.2.2.2.2.1 (limb_lt V) (by have := HX1.out.2.2.2.2.2.2.2.2.2.2.2.1; omega) HX3.out.1 (fun j hj => blk_cell HX3.out.2 (get4 (limb V) (by omega)))).mono ?_
          rintro e V2 ⟨rfl, lg2, hl2, hf2, ⟨d, hs2⟩, hL2, hbut2⟩
          obtain ⟨hsp, hhi, hU, hgl, hgz, hll, hl1, hf1, hq2, hr2, hb2, hltB, hVpos, hGq, hVy⟩ := HX1.out
          rw [hVy] at hs2
          have hP1 := HX2.out _ d (val_lt (4 + 1) (fun j _ => hl2 _)) hs2
          have hnx := round_next hll hVpos HA.out.1 hsp (fun j hj => (hf2 j hj).trans (hf1 j hj)) hhi hP1
          rw [show val (fun j => lg (a + j)) (4 + 1) / V = G - 1 by rw [hGq, Nat.add_sub_cancel]] at hnx
          have hq3 := (hbut2.same _ (by omega)).trans hq2
          have HK := hideP (KI.next ((hbut2.same _ (by omega)).trans HX3.out.2) hq3 hgl hgz hL2 hl2 ((hbut2.same _ (by omega)).trans hr2) (hb2.trans (hbut2.below.mono (by omega))) hltB (by have := HA.out.1; omega) hU hnx (by have := HGB.out.2.2; omega))
          have cq := blk_cell hq3 (get8 g (show a < 8 by have := HA.out.1; omega))
          have fq : ∀ o, V2.frozen? ⟨w.heap.size + 1 + 1, o, none⟩ = false := fun o => blk_free hq3
          clear hsp hhi hU hgl hgz hll hl1 hf1 hq2 hr2 hb2 hltB hVpos hGq hVy hl2 hf2 hs2 hL2 hbut2 hP1 hnx hq3 HX1 HX2 HX3
          go_wp2_with fail
          refine ⟨⟨k + 1, HA.out.2.1, by go_num, ?_⟩, by have := HA.out.2.1; simp [intOf]; omega⟩
          rw [HA.out.2.2]
          exact HK.out
      · obtain ⟨hu8, hpl, hp⟩ := HP.out
        have I := HI.out
        rw [show pl - k = 0 by omega] at I
        obtain ⟨g, lg, hq, hgl, hgz, hL, hll, hU, hlt9⟩ := I.q
        rw [Nat.pow_zero, Nat.mul_one] at hlt9
        obtain ⟨hd1, hd2, hd3⟩ := end_numbers HF.out.2.2.2.1 HF.out.2.2.2.2.1 hU hlt9
        have hM : val lg 9 < M256 := by
          refine Nat.lt_of_lt_of_le (Nat.lt_trans hlt9 HF.out.2.1) ?_
          rw [show M256 = 18446744073709551616 ^ 4 by decide]
          exact Nat.pow_le_pow_right (by decide) (by omega)
        have hlw : wv (val lg 9) = .agg #[.int .u64 (lg 0), .int .u64 (lg 1), .int .u64 (lg 2), .int .u64 (lg 3)] := by
          rw [wv_limb, limb_val 9 (fun i _ => hll i) (by omega), limb_val 9 (fun i _ => hll i) (by omega), limb_val 9 (fun i _ => hll i) (by omega), limb_val 9 (fun i _ => hll i) (by omega)]
        have hsr := HSR.out (val lg 9)
        rw [show shrN s (val lg 9) = N % Y by unfold shrN; rw [if_pos (by have := HF.out.1; omega), Nat.mod_eq_of_lt hM]; exact hd2] at hsr
        obtain ⟨z0, z1, z2, z3, hz⟩ := wv_form (N % Y)
        simp only [hlw, hz, HO.out] at hsr
        have HE : Hid (Value.tuple #[.agg #[.int .u64 (g 0), .int .u64 (g 1), .int .u64 (g 2), .int .u64 (g 3), .int .u64 (g 4), .int .u64 (g 5), .int .u64 (g 6), .int .u64 (g 7)], .agg #[.int .u64 z0, .int .u64 z1, .int .u64 z2, .int .u64 z3]] = RES) := by
          show _ = _
          rw [HRES.out, hz, ← hd1, limb_val 8 (fun i _ => hgl i) (by omega), limb_val 8 (fun i _ => hgl i) (by omega), limb_val 8 (fun i _ => hgl i) (by omega), limb_val 8 (fun i _ => hgl i) (by omega), limb_val 8 (fun i _ => hgl i) (by omega), limb_val 8 (fun i _ => hgl i) (by omega), limb_val 8 (fun i _ => hgl i) (by omega), limb_val 8 (fun i _ => hgl i) (by omega)]
        have HSR2 := hideP hsr
        have hltp : ¬ (k : Int) < p := by omega
        have hr := I.r
        have hb := hideP I.b
        have hltB := I.lt
        have hlq := lt_of_block hq
        have hlB := lt_of_block hL
        clear hgl hgz hll hU hlt9 hd1 hd2 hd3 hM hlw hsr hz I hk hlt hu8 hpl hp HI
        have HQ := hideP hq
        have HL := hideP hL
        have HR := hideP hr
        clear hq hL hr
        go_wp2_with fail
        refine wp_region_heldS (S := KeepR wr (w.heap.size + 1 + 1 + 1)) (by kernel_rfl) (KeepR.init HR.out) (fun hS => ?_)
        refine wpAnyH_takeL (i := 0) (v := ?_) rfl (by kernel_rfl) (by kernel_rfl) (by kernel_rfl) (fun _ _ _ h => h) (Or.inl ⟨by kernel_rfl, ?_⟩) hS ?_
        rotate_left
        · intro V hV
          obtain ⟨k0, k1, k2, k3, k4, k5, k6, k7⟩ := cells8 ((hV.same _ hlq (by omega)).trans HQ.out)
          go_simp
          (try with_reducible rfl)
        simp only [put_list, List.set_cons_succ, List.set_cons_zero]
        refine wpAnyH_takeL (i := 1) (v := ?_) rfl (by kernel_rfl) (by kernel_rfl) (by kernel_rfl) (fun _ _ _ h => h) (Or.inl ⟨by kernel_rfl, ?_⟩) hS ?_
        rotate_left
        · intro V hV
          go_simp
          (try with_reducible rfl)
        simp only [put_list, List.set_cons_succ, List.set_cons_zero]
        refine wpAnyH_takeL (i := 3) (v := ?_) rfl (by kernel_rfl) (by kernel_rfl) (by kernel_rfl) (fun _ _ _ h => h) (Or.inl ⟨by kernel_rfl, ?_⟩) hS ?_
        rotate_left
        · intro V hV
          go_simp
          (try with_reducible rfl)
        simp only [put_list, List.set_cons_succ, List.set_cons_zero]
        refine wpAnyH_takeL (i := 4) (v := ?_) rfl (by kernel_rfl) (by kernel_rfl) (by kernel_rfl) (fun _ _ _ h => h) (Or.inl ⟨by kernel_rfl, ?_⟩) hS ?_
        rotate_left
        · intro V hV
          have k0 := blk_cell ((hV.same _ hlB (by omega)).trans HL.out) (get9 lg (show 0 < 9 by omega))
          go_simp
          (try with_reducible rfl)
        simp only [put_list, List.set_cons_succ, List.set_cons_zero]
        refine wpAnyH_takeL (i := 5) (v := ?_) rfl (by kernel_rfl) (by kernel_rfl) (by kernel_rfl) (fun _ _ _ h => h) (Or.inl ⟨by kernel_rfl, ?_⟩) hS ?_
        rotate_left
        · intro V hV
          go_simp
          (try with_reducible rfl)
        simp only [put_list, List.set_cons_succ, List.set_cons_zero]
        refine wpAnyH_takeL (i := 6) (v := ?_) rfl (by kernel_rfl) (by kernel_rfl) (by kernel_rfl) (fun _ _ _ h => h) (Or.inl ⟨by kernel_rfl, ?_⟩) hS ?_
        rotate_left
        · intro V hV
          have k0 := blk_cell ((hV.same _ hlB (by omega)).trans HL.out) (get9 lg (show 1 < 9 by omega))
          go_simp
          (try with_reducible rfl)
        simp only [put_list, List.set_cons_succ, List.set_cons_zero]
        refine wpAnyH_takeL (i := 7) (v := ?_) rfl (by kernel_rfl) (by kernel_rfl) (by kernel_rfl) (fun _ _ _ h => h) (Or.inl ⟨by kernel_rfl, ?_⟩) hS ?_
        rotate_left
        · intro V hV
          go_simp
          (try with_reducible rfl)
        simp only [put_list, List.set_cons_succ, List.set_cons_zero]
        refine wpAnyH_takeL (i := 8) (v := ?_) rfl (by kernel_rfl) (by kernel_rfl) (by kernel_rfl) (fun _ _ _ h => h) (Or.inl ⟨by kernel_rfl, ?_⟩) hS ?_
        rotate_left
        · intro V hV
          have k0 := blk_cell ((hV.same _ hlB (by omega)).trans HL.out) (get9 lg (show 2 < 9 by omega))
          go_simp
          (try with_reducible rfl)
        simp only [put_list, List.set_cons_succ, List.set_cons_zero]
        refine wpAnyH_takeL (i := 9) (v := ?_) rfl (by kernel_rfl) (by kernel_rfl) (by kernel_rfl) (fun _ _ _ h => h) (Or.inl ⟨by kernel_rfl, ?_⟩) hS ?_
        rotate_left
        · intro V hV
          go_simp
          (try with_reducible rfl)
        simp only [put_list, List.set_cons_succ, List.set_cons_zero]
        refine wpAnyH_takeL (i := 10) (v := ?_) rfl (by kernel_rfl) (by kernel_rfl) (by kernel_rfl) (fun _ _ _ h => h) (Or.inl ⟨by kernel_rfl, ?_⟩) hS ?_
        rotate_left
        · intro V hV
          have k0 := blk_cell ((hV.same _ hlB (by omega)).trans HL.out) (get9 lg (show 3 < 9 by omega))
          go_simp
          (try with_reducible rfl)
        simp only [put_list, List.set_cons_succ, List.set_cons_zero]
        refine wpAnyH_takeL (i := 11) (v := ?_) rfl (by kernel_rfl) (by kernel_rfl) (by kernel_rfl) (fun _ _ _ h => h) (Or.inl ⟨by kernel_rfl, ?_⟩) hS ?_
        rotate_left
        · intro V hV
          go_simp
          (try with_reducible rfl)
        simp only [put_list, List.set_cons_succ, List.set_cons_zero]
        refine wpAnyH_ready (rs := [2]) (by kernel_rfl) (by simp) (AllReadyH.cons rfl (fun K hK => ?_) AllReadyH.nil)
        go_simp
        refine (HOF.out _).mono ?_
        rintro e U1 ⟨rfl, hbc⟩
        refine hK.out _ _ (hS.call hbc) (fun hS => ?_)
        clear hK K hbc
        refine wpAnyH_ready (rs := [12]) (by kernel_rfl) (by simp) (AllReadyH.cons rfl (fun K hK => ?_) AllReadyH.nil)
        go_simp
        refine (HSR2.out _).mono ?_
        rintro e U2 ⟨rfl, hbc⟩
        refine hK.out _ _ (hS.call hbc) (fun hS => ?_)
        clear hK K hbc
        have hq2 := (hS.same _ hlq (by omega)).trans HQ.out
        obtain ⟨k0, k1, k2, k3, k4, k5, k6, k7⟩ := cells8 hq2
        have fq : ∀ o, U2.frozen? ⟨w.heap.size + 1 + 1, o, none⟩ = false := fun o => blk_free hq2
        have HQ2 := hideP hq2
        clear hq2
        refine wpAnyH_ready (rs := [13]) (by kernel_rfl) (by simp) (AllReadyH.cons rfl (fun K hK => ?_) AllReadyH.nil)
        go_simp
        rw [setCell_id (o := 0) (v := .int .u64 (g 0)) HQ2.out rfl, setCell_id (o := 1) (v := .int .u64 (g 1)) HQ2.out rfl, setCell_id (o := 2) (v := .int .u64 (g 2)) HQ2.out rfl, setCell_id (o := 3) (v := .int .u64 (g 3)) HQ2.out rfl, setCell_id (o := 4) (v := .int .u64 (g 4)) HQ2.out rfl, setCell_id (o := 5) (v := .int .u64 (g 5)) HQ2.out rfl, setCell_id (o := 6) (v := .int .u64 (g 6)) HQ2.out rfl, setCell_id (o := 7) (v := .int .u64 (g 7)) HQ2.out rfl]
        refine hK.out _ _ hS (fun hS => ?_)
        clear hK K k0 k1 k2 k3 k4 k5 k6 k7 fq
        obtain ⟨r0, r1, r2, r3, j0, j1, j2, j3, jf⟩ := hS.room
        obtain ⟨t0, t1, t2, t3, ht⟩ := hS.res
        refine wpAnyH_ready (rs := [14]) (by kernel_rfl) (by simp) (AllReadyH.cons rfl (fun K hK => ?_) AllReadyH.nil)
        go_simp
        refine hK.out _ _ (hS.store _ _ _ _) (fun hS => ?_)
        clear hK K j0 j1 j2 j3 jf
        have g8 := (other4 (b := w.heap.size + 1 + 1 + 1) (c := w.heap.size + 1 + 1) (z0 := .int .u64 z0) (z1 := .int .u64 z1) (z2 := .int .u64 z2) (z3 := .int .u64 z3) (by omega)).trans HQ2.out
        have g4 := stored4 (z0 := .int .u64 z0) (z1 := .int .u64 z1) (z2 := .int .u64 z2) (z3 := .int .u64 z3) ht
        generalize ((((U2.setCell ⟨w.heap.size + 1 + 1 + 1, 0, none⟩ (.int .u64 z0)).setCell ⟨w.heap.size + 1 + 1 + 1, 1, none⟩ (.int .u64 z1)).setCell ⟨w.heap.size + 1 + 1 + 1, 2, none⟩ (.int .u64 z2)).setCell ⟨w.heap.size + 1 + 1 + 1, 3, none⟩ (.int .u64 z3)) = X3 at g8 g4 hS ⊢
        obtain ⟨a0, a1, a2, a3, a4, a5, a6, a7⟩ := cells8 g8
        obtain ⟨b0, b1, b2, b3⟩ := cells4 g4
        refine wpAnyH_done (by kernel_rfl) ?_ _
        go_wp2_with fail
        refine bodyPost_ret (v := .tuple #[.agg #[.int .u64 (g 0), .int .u64 (g 1), .int .u64 (g 2), .int .u64 (g 3), .int .u64 (g 4), .int .u64 (g 5), .int .u64 (g 6), .int .u64 (g 7)], .agg #[.int .u64 z0, .int .u64 z1, .int .u64 z2, .int .u64 z3]]) (by simp [results, Try.results122, go_sem, a0, a1, a2, a3, a4, a5, a6, a7, b0, b1, b2, b3]) rfl ⟨by rw [HE.out], hb.out.trans (hS.below.mono (by omega))⟩

end Go.Proofs.Ytpnijncoldihfaa
