/-
  GasRefunds: along any values that a slot takes the sum of refunds is never below nothing.
-/
import Derived.Test.YtaeadndihchbnaaDoorGasRefundsC20
import Derived.Test.YtaeadndihchbnaaDoorGasRefundsC22
namespace Go.Proofs.YtaeadndihchbnaaDoor
open Go.RowKit Go.Shelf

set_option maxHeartbeats 16000000 in
set_option maxRecDepth 100000 in
theorem gasRefunds_walk (F : Nat) (_ : F < M256) (w : World) {ao : Option Addr} {n c : Nat} {f : Nat → Nat} (hV : WS w ao n c f) (hn : n ≤ 140737488355328) : Calls Tryd.prog 10 #[wv F, .slice ao n c] w fun e w' => e = .returned (.bool true) ∧ Below w.heap.size w w' := by
  have HV0 := hideP hV
  have HV := hideP hV
  clear hV
  obtain ⟨f0, f1, f2, f3, hF⟩ := wv_form F
  have HF := hideP hF
  rw [hF]
  clear hF
  have HAW := hideP (fun W => awake_any W)
  have HN := hideP hn
  clear hn
  go_enter Tryd.func10, Tryd.ntmps10
  go_wp2_with fail
  refine at_world_q (fun W0 hW0 => ?_)
  obtain ⟨HBf, HBW⟩ := box1 hW0
  clear hW0
  refine (HAW.out _).mono ?_
  rintro e W1 ⟨rfl, hb⟩
  replace HBf := (hb.block _ (lt_of_block HBf)).trans HBf
  replace HBW := HBW.trans (hb.mono HBW.size)
  clear hb
  obtain ⟨c0, c1, c2, c3⟩ := cells4 HBf
  replace HBf := hideP HBf
  replace HBW := hideP HBW
  go_wp2_with fail
  refine at_world_t (fun W2 hW2 => ?_)
  obtain ⟨HBx, HB2⟩ := box1 hW2
  clear hW2 c0 c1 c2 c3
  have hB := lt_of_block HBf.out
  replace HBf := hideP ((HB2.block _ (lt_of_block HBf.out)).trans HBf.out)
  replace HBW := hideP (HBW.out.trans (HB2.mono HBW.out.size))
  clear HB2
  generalize W1.heap.size = B at *
  have HBB := hideP hB
  have HX0 := hideP HBx
  clear hB HBx
  rename_i Q' K hK
  have HK := hideP hK
  clear hK
  go_loopw [6, 7] (fun s i wr => ∃ (k X : Nat) (sm : Int), k ≤ n ∧ k ≤ 1000 ∧ i = .int .i64 k ∧ s = .int .i64 sm ∧ Hid (wr.heap[w.heap.size]? = some (.cells #[.int .u64 f0, .int .u64 f1, .int .u64 f2, .int .u64 f3] 30 (0, 0))) ∧ Hid (∃ x0 x1 x2 x3 : Int, wv X = .agg #[.int .u64 x0, .int .u64 x1, .int .u64 x2, .int .u64 x3] ∧ wr.heap[B]? = some (.cells #[.int .u64 x0, .int .u64 x1, .int .u64 x2, .int .u64 x3] 30 (0, 0))) ∧ Hid (Owed (F % M256) (X % M256) sm) ∧ sm ≤ 22700 * (k : Int) ∧ Hid (WS wr ao n c f) ∧ Hid (Below w.heap.size w wr)) (fun _ i _ => n - (intOf i).toNat)
  case atStart => exact ⟨0, F, 0, Nat.zero_le _, Nat.zero_le _, rfl, rfl, HBf, ⟨f0, f1, f2, f3, HF.out, HX0.out⟩, owed_zero _, by omega, HV.out.moved HBW.out, HBW⟩
  case round =>
    clear HBf HX0 HBW HV
    obtain ⟨k, X, sm, hk1, hk2, rfl, rfl, HBf, HX, HO, hsm, HV, HBW⟩ := hrel
    have hn := HN.out
    by_cases hlt : k < n
    · by_cases h1000 : k < 1000
      · by_cases hk0 : k = 0
        · by_cases hfar : ¬ X % M256 = F % M256
          · obtain ⟨x0, x1, x2, x3, hX, HBx⟩ := HX.out
            obtain ⟨ad, hao, y0, y1, y2, y3, hY, d0, d1, d2, d3⟩ := HV.out.cell k hlt
            subst hao
            have d1 : wr.cell? ⟨(ad.add (k * 4)).block, (ad.add (k * 4)).off + 1, none⟩ = some (.int .u64 y1) := d1
            have d2 : wr.cell? ⟨(ad.add (k * 4)).block, (ad.add (k * 4)).off + 2, none⟩ = some (.int .u64 y2) := d2
            have d3 : wr.cell? ⟨(ad.add (k * 4)).block, (ad.add (k * 4)).off + 3, none⟩ = some (.int .u64 y3) := d3
            have hst := fun W => store_any F X (f k) false W
            have hstep := store_step (next := f k % M256) (warm := false) HO.out
            rw [HF.out, hX, hY] at hst
            have q1 := fun W => eq_run X F (b := false) (by simp [hfar]) hX HF.out W
            generalize storeN (F % M256) (X % M256) (f k % M256) false = st at *
            obtain ⟨ct, bk⟩ := st
            obtain ⟨hs1, hs2, hs3, hs4, hs5⟩ := hstep
            dsimp only at hst hs1 hs2 hs3 hs4 hs5
            have hs0 := hs1.1
            have t0 : IntKind.i64.wrap (sm + bk) = sm + bk := by rw [IntKind.wrap_i64]; omega
            have t1 : ¬ sm + bk < 0 := by omega
            have t2 : ct = 2200 := hs4 (fun h => hfar h.1)
            subst t2
            have g0 : ¬ 0 < k := by omega
            have g1 : (k : Int) < (n : Int) := by omega
            have g2 : (k : Int) < 1000 := by omega
            have t5 : IntKind.i64.wrap ((k : Int) + 1) = (k : Int) + 1 := by rw [IntKind.wrap_i64]; omega
            have HST := hideP hst
            have HNX := hideP (And.intro hs1 (And.intro hs2 (And.intro hk1 (And.intro h1000 (And.intro hlt (And.intro hsm hY))))))
            replace HBx := hideP HBx
            clear hst hs0 hs1 hs2 hs3 hs4 hs5 HO HX hX hY hsm hlt h1000 hk1 hfar hk0
            have l0 := World.block_lt_of_cell? wr _ d0
            have l1 := World.block_lt_of_cell? wr _ d1
            have l2 := World.block_lt_of_cell? wr _ d2
            have l3 := World.block_lt_of_cell? wr _ d3
            go_wp2_with fail
            obtain ⟨cf0, cf1, cf2, cf3⟩ := cells4 HBf.out
            have hlf := lt_of_block HBf.out
            obtain ⟨cx0, cx1, cx2, cx3⟩ := cells4 HBx.out
            have hlx := lt_of_block HBx.out
            refine wp_region_heldS (S := fun V => Below wr.heap.size wr V) (by kernel_rfl) (Below.refl _ _).drew (fun hS => ?_)
            refine wpAnyH_takeL (i := 0) (v := ?_) rfl (by kernel_rfl) (by kernel_rfl) (by kernel_rfl) (fun _ _ _ h => h) (Or.inl ⟨by kernel_rfl, ?_⟩) hS ?_
            rotate_left
            · intro V hV
              have k0 := (hV.cell (p := ⟨w.heap.size, 0, none⟩) hlf).trans cf0
              have k1 := (hV.cell (p := ⟨w.heap.size, 1, none⟩) hlf).trans cf1
              have k2 := (hV.cell (p := ⟨w.heap.size, 2, none⟩) hlf).trans cf2
              have k3 := (hV.cell (p := ⟨w.heap.size, 3, none⟩) hlf).trans cf3
              go_simp
              (try with_reducible rfl)
            simp only [put_list, List.set_cons_succ, List.set_cons_zero]
            refine wpAnyH_takeL (i := 1) (v := ?_) rfl (by kernel_rfl) (by kernel_rfl) (by kernel_rfl) (fun _ _ _ h => h) (Or.inl ⟨by kernel_rfl, ?_⟩) hS ?_
            rotate_left
            · intro V hV
              have k0 := (hV.cell (p := ⟨B, 0, none⟩) hlx).trans cx0
              have k1 := (hV.cell (p := ⟨B, 1, none⟩) hlx).trans cx1
              have k2 := (hV.cell (p := ⟨B, 2, none⟩) hlx).trans cx2
              have k3 := (hV.cell (p := ⟨B, 3, none⟩) hlx).trans cx3
              go_simp
              (try with_reducible rfl)
            simp only [put_list, List.set_cons_succ, List.set_cons_zero]
            refine wpAnyH_takeL (i := 2) (v := ?_) rfl (by kernel_rfl) (by kernel_rfl) (by kernel_rfl) (fun _ _ _ h => h) (Or.inl ⟨by kernel_rfl, ?_⟩) hS ?_
            rotate_left
            · intro V hV
              go_simp
              (try with_reducible rfl)
            simp only [put_list, List.set_cons_succ, List.set_cons_zero]
            refine wpAnyH_takeL (i := 3) (v := ?_) rfl (by kernel_rfl) (by kernel_rfl) (by kernel_rfl) (fun _ _ _ h => h) (Or.inl ⟨by kernel_rfl, ?_⟩) hS ?_
            rotate_left
            · intro V hV
              go_simp
              (try with_reducible rfl)
            simp only [put_list, List.set_cons_succ, List.set_cons_zero]
            refine wpAnyH_takeL (i := 4) (v := ?_) rfl (by kernel_rfl) (by kernel_rfl) (by kernel_rfl) (fun _ _ _ h => h) (Or.inl ⟨by kernel_rfl, ?_⟩) hS ?_
            rotate_left
            · intro V hV
              go_simp
              (try with_reducible rfl)
            simp only [put_list, List.set_cons_succ, List.set_cons_zero]
            refine wpAnyH_takeL (i := 5) (v := ?_) rfl (by kernel_rfl) (by kernel_rfl) (by kernel_rfl) (fun _ _ _ h => h) (Or.inl ⟨by kernel_rfl, ?_⟩) hS ?_
            rotate_left
            · intro V hV
              have e0 := (hV.cell (p := ad.add (k * 4)) l0).trans d0
              have e1 := (hV.cell (p := ⟨(ad.add (k * 4)).block, (ad.add (k * 4)).off + 1, none⟩) l1).trans d1
              have e2 := (hV.cell (p := ⟨(ad.add (k * 4)).block, (ad.add (k * 4)).off + 2, none⟩) l2).trans d2
              have e3 := (hV.cell (p := ⟨(ad.add (k * 4)).block, (ad.add (k * 4)).off + 3, none⟩) l3).trans d3
              go_simp
              (try with_reducible rfl)
            simp only [put_list, List.set_cons_succ, List.set_cons_zero]
            refine wpAnyH_takeL (i := 6) (v := ?_) rfl (by kernel_rfl) (by kernel_rfl) (by kernel_rfl) (fun _ _ _ h => h) (Or.inl ⟨by kernel_rfl, ?_⟩) hS ?_
            rotate_left
            · intro V hV
              go_simp
              (try with_reducible rfl)
            simp only [put_list, List.set_cons_succ, List.set_cons_zero]
            refine wpAnyH_takeL (i := 7) (v := ?_) rfl (by kernel_rfl) (by kernel_rfl) (by kernel_rfl) (fun _ _ _ h => h) (Or.inl ⟨by kernel_rfl, ?_⟩) hS ?_
            rotate_left
            · intro V hV
              go_simp
              (try with_reducible rfl)
            simp only [put_list, List.set_cons_succ, List.set_cons_zero]
            refine wpAnyH_ready (rs := [8]) (by kernel_rfl) (by simp) (AllReadyH.cons rfl (fun K hK => ?_) AllReadyH.nil)
            go_simp
            refine (HST.out _).mono ?_
            rintro e U1 ⟨rfl, hbc⟩
            refine hK.out _ _ (hS.trans (hbc.mono hS.size)) (fun hS => ?_)
            clear hK K hbc
            refine wpAnyH_takeL (i := 9) (v := ?_) rfl (by kernel_rfl) (by kernel_rfl) (by kernel_rfl) (fun _ _ _ h => h) (Or.inl ⟨by kernel_rfl, ?_⟩) hS ?_
            rotate_left
            · intro V hV
              go_simp
              (try with_reducible rfl)
            simp only [put_list, List.set_cons_succ, List.set_cons_zero]
            refine wpAnyH_takeL (i := 10) (v := ?_) rfl (by kernel_rfl) (by kernel_rfl) (by kernel_rfl) (fun _ _ _ h => h) (Or.inl ⟨by kernel_rfl, ?_⟩) hS ?_
            rotate_left
            · intro V hV
              go_simp
              (try with_reducible rfl)
            simp only [put_list, List.set_cons_succ, List.set_cons_zero]
            refine wpAnyH_takeL (i := 11) (v := ?_) rfl (by kernel_rfl) (by kernel_rfl) (by kernel_rfl) (fun _ _ _ h => h) (Or.inl ⟨by kernel_rfl, ?_⟩) hS ?_
            rotate_left
            · intro V hV
              go_simp
              (try with_reducible rfl)
            simp only [put_list, List.set_cons_succ, List.set_cons_zero]
            refine wpAnyH_ready (rs := [12]) (by kernel_rfl) (by simp) (AllReadyH.cons rfl (fun K hK => ?_) AllReadyH.nil)
            go_simp
            refine hK.out _ _ hS (fun hS => ?_)
            clear hK K
            refine wpAnyH_ready (rs := [13]) (by kernel_rfl) (by simp) (AllReadyH.cons rfl (fun K hK => ?_) AllReadyH.nil)
            go_simp
            refine hK.out _ _ hS (fun hS => ?_)
            clear hK K
            refine wpAnyH_done (by kernel_rfl) ?_ _
            replace HBW := hideP (HBW.out.trans (hS.mono HBW.out.size))
            replace HBf := hideP ((hS.block _ (lt_of_block HBf.out)).trans HBf.out)
            replace HBx := hideP ((hS.block _ (lt_of_block HBx.out)).trans HBx.out)
            replace d0 := (hS.cell (p := ad.add (k * 4)) l0).trans d0
            replace d1 := (hS.cell (p := ⟨(ad.add (k * 4)).block, (ad.add (k * 4)).off + 1, none⟩) l1).trans d1
            replace d2 := (hS.cell (p := ⟨(ad.add (k * 4)).block, (ad.add (k * 4)).off + 2, none⟩) l2).trans d2
            replace d3 := (hS.cell (p := ⟨(ad.add (k * 4)).block, (ad.add (k * 4)).off + 3, none⟩) l3).trans d3
            replace HV := hideP (HV.out.moved hS)
            clear hS l0 l1 l2 l3
            clear cf0 cf1 cf2 cf3 hlf
            clear cx0 cx1 cx2 cx3 hlx
            obtain ⟨cf0, cf1, cf2, cf3⟩ := cells4 HBf.out
            have hlf := lt_of_block HBf.out
            obtain ⟨cx0, cx1, cx2, cx3⟩ := cells4 HBx.out
            have hlx := lt_of_block HBx.out
            have l0 := World.block_lt_of_cell? U1 _ d0
            have l1 := World.block_lt_of_cell? U1 _ d1
            have l2 := World.block_lt_of_cell? U1 _ d2
            have l3 := World.block_lt_of_cell? U1 _ d3
            go_wp2_with fail
            refine wp_region_heldS (S := fun V => Below U1.heap.size U1 V) (by kernel_rfl) (Below.refl _ _).drew (fun hS => ?_)
            refine wpAnyH_takeL (i := 0) (v := ?_) rfl (by kernel_rfl) (by kernel_rfl) (by kernel_rfl) (fun _ _ _ h => h) (Or.inl ⟨by kernel_rfl, ?_⟩) hS ?_
            rotate_left
            · intro V hV
              have k0 := (hV.cell (p := ⟨B, 0, none⟩) hlx).trans cx0
              have k1 := (hV.cell (p := ⟨B, 1, none⟩) hlx).trans cx1
              have k2 := (hV.cell (p := ⟨B, 2, none⟩) hlx).trans cx2
              have k3 := (hV.cell (p := ⟨B, 3, none⟩) hlx).trans cx3
              go_simp
              (try with_reducible rfl)
            simp only [put_list, List.set_cons_succ, List.set_cons_zero]
            refine wpAnyH_takeL (i := 1) (v := ?_) rfl (by kernel_rfl) (by kernel_rfl) (by kernel_rfl) (fun _ _ _ h => h) (Or.inl ⟨by kernel_rfl, ?_⟩) hS ?_
            rotate_left
            · intro V hV
              have k0 := (hV.cell (p := ⟨w.heap.size, 0, none⟩) hlf).trans cf0
              have k1 := (hV.cell (p := ⟨w.heap.size, 1, none⟩) hlf).trans cf1
              have k2 := (hV.cell (p := ⟨w.heap.size, 2, none⟩) hlf).trans cf2
              have k3 := (hV.cell (p := ⟨w.heap.size, 3, none⟩) hlf).trans cf3
              go_simp
              (try with_reducible rfl)
            simp only [put_list, List.set_cons_succ, List.set_cons_zero]
            refine wpAnyH_takeL (i := 2) (v := ?_) rfl (by kernel_rfl) (by kernel_rfl) (by kernel_rfl) (fun _ _ _ h => h) (Or.inl ⟨by kernel_rfl, ?_⟩) hS ?_
            rotate_left
            · intro V hV
              go_simp
              (try with_reducible rfl)
            simp only [put_list, List.set_cons_succ, List.set_cons_zero]
            refine wpAnyH_takeL (i := 3) (v := ?_) rfl (by kernel_rfl) (by kernel_rfl) (by kernel_rfl) (fun _ _ _ h => h) (Or.inl ⟨by kernel_rfl, ?_⟩) hS ?_
            rotate_left
            · intro V hV
              go_simp
              (try with_reducible rfl)
            simp only [put_list, List.set_cons_succ, List.set_cons_zero]
            refine wpAnyH_takeL (i := 4) (v := undef) rfl (by kernel_rfl) (by kernel_rfl) (by kernel_rfl) (fun _ _ _ h => h) (Or.inr ⟨by kernel_rfl, rfl⟩) hS ?_
            simp only [put_list, List.set_cons_succ, List.set_cons_zero]
            refine wpAnyH_takeL (i := 5) (v := undef) rfl (by kernel_rfl) (by kernel_rfl) (by kernel_rfl) (fun _ _ _ h => h) (Or.inr ⟨by kernel_rfl, rfl⟩) hS ?_
            simp only [put_list, List.set_cons_succ, List.set_cons_zero]
            refine wpAnyH_takeL (i := 6) (v := undef) rfl (by kernel_rfl) (by kernel_rfl) (by kernel_rfl) (fun _ _ _ h => h) (Or.inr ⟨by kernel_rfl, rfl⟩) hS ?_
            simp only [put_list, List.set_cons_succ, List.set_cons_zero]
            refine wpAnyH_takeL (i := 7) (v := undef) rfl (by kernel_rfl) (by kernel_rfl) (by kernel_rfl) (fun _ _ _ h => h) (Or.inr ⟨by kernel_rfl, rfl⟩) hS ?_
            simp only [put_list, List.set_cons_succ, List.set_cons_zero]
            refine wpAnyH_takeL (i := 8) (v := undef) rfl (by kernel_rfl) (by kernel_rfl) (by kernel_rfl) (fun _ _ _ h => h) (Or.inr ⟨by kernel_rfl, rfl⟩) hS ?_
            simp only [put_list, List.set_cons_succ, List.set_cons_zero]
            refine wpAnyH_takeL (i := 9) (v := undef) rfl (by kernel_rfl) (by kernel_rfl) (by kernel_rfl) (fun _ _ _ h => h) (Or.inr ⟨by kernel_rfl, rfl⟩) hS ?_
            simp only [put_list, List.set_cons_succ, List.set_cons_zero]
            refine wpAnyH_takeL (i := 10) (v := ?_) rfl (by kernel_rfl) (by kernel_rfl) (by kernel_rfl) (fun _ _ _ h => h) (Or.inl ⟨by kernel_rfl, ?_⟩) hS ?_
            rotate_left
            · intro V hV
              go_simp
              (try with_reducible rfl)
            simp only [put_list, List.set_cons_succ, List.set_cons_zero]
            refine wpAnyH_ready (rs := [11]) (by kernel_rfl) (by simp) (AllReadyH.cons rfl (fun K hK => ?_) AllReadyH.nil)
            go_simp
            refine hK.out _ _ hS (fun hS => ?_)
            clear hK K
            refine wpAnyH_done (by kernel_rfl) ?_ _
            replace HBW := hideP (HBW.out.trans (hS.mono HBW.out.size))
            replace HBf := hideP ((hS.block _ (lt_of_block HBf.out)).trans HBf.out)
            replace HBx := hideP ((hS.block _ (lt_of_block HBx.out)).trans HBx.out)
            replace d0 := (hS.cell (p := ad.add (k * 4)) l0).trans d0
            replace d1 := (hS.cell (p := ⟨(ad.add (k * 4)).block, (ad.add (k * 4)).off + 1, none⟩) l1).trans d1
            replace d2 := (hS.cell (p := ⟨(ad.add (k * 4)).block, (ad.add (k * 4)).off + 2, none⟩) l2).trans d2
            replace d3 := (hS.cell (p := ⟨(ad.add (k * 4)).block, (ad.add (k * 4)).off + 3, none⟩) l3).trans d3
            replace HV := hideP (HV.out.moved hS)
            clear hS l0 l1 l2 l3
            clear cf0 cf1 cf2 cf3 hlf
            clear cx0 cx1 cx2 cx3 hlx
            generalize U1.drew = W9 at *
            obtain ⟨cx0, cx1, cx2, cx3⟩ := cells4 HBx.out
            have xf : ∀ i, W9.frozen? ⟨B, i, none⟩ = false := fun i => blk_free HBx.out
            have HE : ∀ V, V = (((W9.setCell ⟨B, 0, none⟩ (.int .u64 y0)).setCell ⟨B, 1, none⟩ (.int .u64 y1)).setCell ⟨B, 2, none⟩ (.int .u64 y2)).setCell ⟨B, 3, none⟩ (.int .u64 y3) →
                V.heap[w.heap.size]? = some (.cells #[.int .u64 f0, .int .u64 f1, .int .u64 f2, .int .u64 f3] 30 (0, 0)) ∧ V.heap[B]? = some (.cells #[.int .u64 y0, .int .u64 y1, .int .u64 y2, .int .u64 y3] 30 (0, 0)) ∧ Below w.heap.size w V := by
              have hB := HBB.out
              rintro V rfl
              refine ⟨?_, ?_, ?_⟩
              · repeat first | exact HBf.out | (refine (Below.heap_setCell _ _ _ _ (by dsimp only; omega)).trans ?_)
              · exact blk_set (blk_set (blk_set (blk_set HBx.out _) _) _) _
              · repeat first | exact HBW.out | (refine Below.setCell ?_ (by dsimp only <;> omega) _)
            replace HE := hideP HE
            clear HBx HBf HBW HV
            go_wp2_with fail
            obtain ⟨n1, n2, n3, n4, n5, n6, nY⟩ := HNX.out
            obtain ⟨h1, h2, h3⟩ := HE.out _ rfl
            exact ⟨⟨k + 1, f k, sm + bk, by omega, by omega, rfl, rfl, h1, ⟨y0, y1, y2, y3, nY, h2⟩, n1, by omega, HV0.out.moved h3, h3⟩, by simp [intOf]; omega⟩
          · by_cases hnx : f k % M256 = X % M256
            · have hsame := And.intro (Decidable.not_not.1 hfar) hnx
              obtain ⟨x0, x1, x2, x3, hX, HBx⟩ := HX.out
              obtain ⟨ad, hao, y0, y1, y2, y3, hY, d0, d1, d2, d3⟩ := HV.out.cell k hlt
              subst hao
              have d1 : wr.cell? ⟨(ad.add (k * 4)).block, (ad.add (k * 4)).off + 1, none⟩ = some (.int .u64 y1) := d1
              have d2 : wr.cell? ⟨(ad.add (k * 4)).block, (ad.add (k * 4)).off + 2, none⟩ = some (.int .u64 y2) := d2
              have d3 : wr.cell? ⟨(ad.add (k * 4)).block, (ad.add (k * 4)).off + 3, none⟩ = some (.int .u64 y3) := d3
              have hst := fun W => store_any F X (f k) false W
              have hstep := store_step (next := f k % M256) (warm := false) HO.out
              rw [HF.out, hX, hY] at hst
              have q1 := fun W => eq_run X F (b := true) (by simp [hsame.1]) hX HF.out W
              have q2 := fun W => eq_run (f k) X (b := true) (by simp [hsame.2]) hY hX W
              generalize storeN (F % M256) (X % M256) (f k % M256) false = st at *
              obtain ⟨ct, bk⟩ := st
              obtain ⟨hs1, hs2, hs3, hs4, hs5⟩ := hstep
              dsimp only at hst hs1 hs2 hs3 hs4 hs5
              have hs0 := hs1.1
              have t0 : IntKind.i64.wrap (sm + bk) = sm + bk := by rw [IntKind.wrap_i64]; omega
              have t1 : ¬ sm + bk < 0 := by omega
              have t2 : ct = 2200 := hs4 (fun h => h.2 hsame.2)
              subst t2
              have g0 : ¬ 0 < k := by omega
              have g1 : (k : Int) < (n : Int) := by omega
              have g2 : (k : Int) < 1000 := by omega
              have t5 : IntKind.i64.wrap ((k : Int) + 1) = (k : Int) + 1 := by rw [IntKind.wrap_i64]; omega
              have HST := hideP hst
              have HNX := hideP (And.intro hs1 (And.intro hs2 (And.intro hk1 (And.intro h1000 (And.intro hlt (And.intro hsm hY))))))
              replace HBx := hideP HBx
              clear hst hs0 hs1 hs2 hs3 hs4 hs5 HO HX hX hY hsm hlt h1000 hk1 hsame hk0
              have l0 := World.block_lt_of_cell? wr _ d0
              have l1 := World.block_lt_of_cell? wr _ d1
              have l2 := World.block_lt_of_cell? wr _ d2
              have l3 := World.block_lt_of_cell? wr _ d3
              go_wp2_with fail
              obtain ⟨cf0, cf1, cf2, cf3⟩ := cells4 HBf.out
              have hlf := lt_of_block HBf.out
              obtain ⟨cx0, cx1, cx2, cx3⟩ := cells4 HBx.out
              have hlx := lt_of_block HBx.out
              refine wp_region_heldS (S := fun V => Below wr.heap.size wr V) (by kernel_rfl) (Below.refl _ _).drew (fun hS => ?_)
              refine wpAnyH_takeL (i := 0) (v := ?_) rfl (by kernel_rfl) (by kernel_rfl) (by kernel_rfl) (fun _ _ _ h => h) (Or.inl ⟨by kernel_rfl, ?_⟩) hS ?_
              rotate_left
              · intro V hV
                have k0 := (hV.cell (p := ⟨w.heap.size, 0, none⟩) hlf).trans cf0
                have k1 := (hV.cell (p := ⟨w.heap.size, 1, none⟩) hlf).trans cf1
                have k2 := (hV.cell (p := ⟨w.heap.size, 2, none⟩) hlf).trans cf2
                have k3 := (hV.cell (p := ⟨w.heap.size, 3, none⟩) hlf).trans cf3
                go_simp
                (try with_reducible rfl)
              simp only [put_list, List.set_cons_succ, List.set_cons_zero]
              refine wpAnyH_takeL (i := 1) (v := ?_) rfl (by kernel_rfl) (by kernel_rfl) (by kernel_rfl) (fun _ _ _ h => h) (Or.inl ⟨by kernel_rfl, ?_⟩) hS ?_
              rotate_left
              · intro V hV
                have k0 := (hV.cell (p := ⟨B, 0, none⟩) hlx).trans cx0
                have k1 := (hV.cell (p := ⟨B, 1, none⟩) hlx).trans cx1
                have k2 := (hV.cell (p := ⟨B, 2, none⟩) hlx).trans cx2
                have k3 := (hV.cell (p := ⟨B, 3, none⟩) hlx).trans cx3
                go_simp
                (try with_reducible rfl)
              simp only [put_list, List.set_cons_succ, List.set_cons_zero]
              refine wpAnyH_takeL (i := 2) (v := ?_) rfl (by kernel_rfl) (by kernel_rfl) (by kernel_rfl) (fun _ _ _ h => h) (Or.inl ⟨by kernel_rfl, ?_⟩) hS ?_
              rotate_left
              · intro V hV
                go_simp
                (try with_reducible rfl)
              simp only [put_list, List.set_cons_succ, List.set_cons_zero]
              refine wpAnyH_takeL (i := 3) (v := ?_) rfl (by kernel_rfl) (by kernel_rfl) (by kernel_rfl) (fun _ _ _ h => h) (Or.inl ⟨by kernel_rfl, ?_⟩) hS ?_
              rotate_left
              · intro V hV
                go_simp
                (try with_reducible rfl)
              simp only [put_list, List.set_cons_succ, List.set_cons_zero]
              refine wpAnyH_takeL (i := 4) (v := ?_) rfl (by kernel_rfl) (by kernel_rfl) (by kernel_rfl) (fun _ _ _ h => h) (Or.inl ⟨by kernel_rfl, ?_⟩) hS ?_
              rotate_left
              · intro V hV
                go_simp
                (try with_reducible rfl)
              simp only [put_list, List.set_cons_succ, List.set_cons_zero]
              refine wpAnyH_takeL (i := 5) (v := ?_) rfl (by kernel_rfl) (by kernel_rfl) (by kernel_rfl) (fun _ _ _ h => h) (Or.inl ⟨by kernel_rfl, ?_⟩) hS ?_
              rotate_left
              · intro V hV
                have e0 := (hV.cell (p := ad.add (k * 4)) l0).trans d0
                have e1 := (hV.cell (p := ⟨(ad.add (k * 4)).block, (ad.add (k * 4)).off + 1, none⟩) l1).trans d1
                have e2 := (hV.cell (p := ⟨(ad.add (k * 4)).block, (ad.add (k * 4)).off + 2, none⟩) l2).trans d2
                have e3 := (hV.cell (p := ⟨(ad.add (k * 4)).block, (ad.add (k * 4)).off + 3, none⟩) l3).trans d3
                go_simp
                (try with_reducible rfl)
              simp only [put_list, List.set_cons_succ, List.set_cons_zero]
              refine wpAnyH_takeL (i := 6) (v := ?_) rfl (by kernel_rfl) (by kernel_rfl) (by kernel_rfl) (fun _ _ _ h => h) (Or.inl ⟨by kernel_rfl, ?_⟩) hS ?_
              rotate_left
              · intro V hV
                go_simp
                (try with_reducible rfl)
              simp only [put_list, List.set_cons_succ, List.set_cons_zero]
              refine wpAnyH_takeL (i := 7) (v := ?_) rfl (by kernel_rfl) (by kernel_rfl) (by kernel_rfl) (fun _ _ _ h => h) (Or.inl ⟨by kernel_rfl, ?_⟩) hS ?_
              rotate_left
              · intro V hV
                go_simp
                (try with_reducible rfl)
              simp only [put_list, List.set_cons_succ, List.set_cons_zero]
              refine wpAnyH_ready (rs := [8]) (by kernel_rfl) (by simp) (AllReadyH.cons rfl (fun K hK => ?_) AllReadyH.nil)
              go_simp
              refine (HST.out _).mono ?_
              rintro e U1 ⟨rfl, hbc⟩
              refine hK.out _ _ (hS.trans (hbc.mono hS.size)) (fun hS => ?_)
              clear hK K hbc
              refine wpAnyH_takeL (i := 9) (v := ?_) rfl (by kernel_rfl) (by kernel_rfl) (by kernel_rfl) (fun _ _ _ h => h) (Or.inl ⟨by kernel_rfl, ?_⟩) hS ?_
              rotate_left
              · intro V hV
                go_simp
                (try with_reducible rfl)
              simp only [put_list, List.set_cons_succ, List.set_cons_zero]
              refine wpAnyH_takeL (i := 10) (v := ?_) rfl (by kernel_rfl) (by kernel_rfl) (by kernel_rfl) (fun _ _ _ h => h) (Or.inl ⟨by kernel_rfl, ?_⟩) hS ?_
              rotate_left
              · intro V hV
                go_simp
                (try with_reducible rfl)
              simp only [put_list, List.set_cons_succ, List.set_cons_zero]
              refine wpAnyH_takeL (i := 11) (v := ?_) rfl (by kernel_rfl) (by kernel_rfl) (by kernel_rfl) (fun _ _ _ h => h) (Or.inl ⟨by kernel_rfl, ?_⟩) hS ?_
              rotate_left
              · intro V hV
                go_simp
                (try with_reducible rfl)
              simp only [put_list, List.set_cons_succ, List.set_cons_zero]
              refine wpAnyH_ready (rs := [12]) (by kernel_rfl) (by simp) (AllReadyH.cons rfl (fun K hK => ?_) AllReadyH.nil)
              go_simp
              refine hK.out _ _ hS (fun hS => ?_)
              clear hK K
              refine wpAnyH_ready (rs := [13]) (by kernel_rfl) (by simp) (AllReadyH.cons rfl (fun K hK => ?_) AllReadyH.nil)
              go_simp
              refine hK.out _ _ hS (fun hS => ?_)
              clear hK K
              refine wpAnyH_done (by kernel_rfl) ?_ _
              replace HBW := hideP (HBW.out.trans (hS.mono HBW.out.size))
              replace HBf := hideP ((hS.block _ (lt_of_block HBf.out)).trans HBf.out)
              replace HBx := hideP ((hS.block _ (lt_of_block HBx.out)).trans HBx.out)
              replace d0 := (hS.cell (p := ad.add (k * 4)) l0).trans d0
              replace d1 := (hS.cell (p := ⟨(ad.add (k * 4)).block, (ad.add (k * 4)).off + 1, none⟩) l1).trans d1
              replace d2 := (hS.cell (p := ⟨(ad.add (k * 4)).block, (ad.add (k * 4)).off + 2, none⟩) l2).trans d2
              replace d3 := (hS.cell (p := ⟨(ad.add (k * 4)).block, (ad.add (k * 4)).off + 3, none⟩) l3).trans d3
              replace HV := hideP (HV.out.moved hS)
              clear hS l0 l1 l2 l3
              clear cf0 cf1 cf2 cf3 hlf
              clear cx0 cx1 cx2 cx3 hlx
              obtain ⟨cf0, cf1, cf2, cf3⟩ := cells4 HBf.out
              have hlf := lt_of_block HBf.out
              obtain ⟨cx0, cx1, cx2, cx3⟩ := cells4 HBx.out
              have hlx := lt_of_block HBx.out
              have l0 := World.block_lt_of_cell? U1 _ d0
              have l1 := World.block_lt_of_cell? U1 _ d1
              have l2 := World.block_lt_of_cell? U1 _ d2
              have l3 := World.block_lt_of_cell? U1 _ d3
              go_wp2_with fail
              refine wp_region_heldS (S := fun V => Below U1.heap.size U1 V) (by kernel_rfl) (Below.refl _ _).drew (fun hS => ?_)
              refine wpAnyH_takeL (i := 0) (v := ?_) rfl (by kernel_rfl) (by kernel_rfl) (by kernel_rfl) (fun _ _ _ h => h) (Or.inl ⟨by kernel_rfl, ?_⟩) hS ?_
              rotate_left
              · intro V hV
                have k0 := (hV.cell (p := ⟨B, 0, none⟩) hlx).trans cx0
                have k1 := (hV.cell (p := ⟨B, 1, none⟩) hlx).trans cx1
                have k2 := (hV.cell (p := ⟨B, 2, none⟩) hlx).trans cx2
                have k3 := (hV.cell (p := ⟨B, 3, none⟩) hlx).trans cx3
                go_simp
                (try with_reducible rfl)
              simp only [put_list, List.set_cons_succ, List.set_cons_zero]
              refine wpAnyH_takeL (i := 1) (v := ?_) rfl (by kernel_rfl) (by kernel_rfl) (by kernel_rfl) (fun _ _ _ h => h) (Or.inl ⟨by kernel_rfl, ?_⟩) hS ?_
              rotate_left
              · intro V hV
                have k0 := (hV.cell (p := ⟨w.heap.size, 0, none⟩) hlf).trans cf0
                have k1 := (hV.cell (p := ⟨w.heap.size, 1, none⟩) hlf).trans cf1
                have k2 := (hV.cell (p := ⟨w.heap.size, 2, none⟩) hlf).trans cf2
                have k3 := (hV.cell (p := ⟨w.heap.size, 3, none⟩) hlf).trans cf3
                go_simp
                (try with_reducible rfl)
              simp only [put_list, List.set_cons_succ, List.set_cons_zero]
              refine wpAnyH_takeL (i := 2) (v := ?_) rfl (by kernel_rfl) (by kernel_rfl) (by kernel_rfl) (fun _ _ _ h => h) (Or.inl ⟨by kernel_rfl, ?_⟩) hS ?_
              rotate_left
              · intro V hV
                go_simp
                (try with_reducible rfl)
              simp only [put_list, List.set_cons_succ, List.set_cons_zero]
              refine wpAnyH_takeL (i := 3) (v := ?_) rfl (by kernel_rfl) (by kernel_rfl) (by kernel_rfl) (fun _ _ _ h => h) (Or.inl ⟨by kernel_rfl, ?_⟩) hS ?_
              rotate_left
              · intro V hV
                go_simp
                (try with_reducible rfl)
              simp only [put_list, List.set_cons_succ, List.set_cons_zero]
              refine wpAnyH_takeL (i := 4) (v := ?_) rfl (by kernel_rfl) (by kernel_rfl) (by kernel_rfl) (fun _ _ _ h => h) (Or.inl ⟨by kernel_rfl, ?_⟩) hS ?_
              rotate_left
              · intro V hV
                go_simp
                (try with_reducible rfl)
              simp only [put_list, List.set_cons_succ, List.set_cons_zero]
              refine wpAnyH_takeL (i := 5) (v := ?_) rfl (by kernel_rfl) (by kernel_rfl) (by kernel_rfl) (fun _ _ _ h => h) (Or.inl ⟨by kernel_rfl, ?_⟩) hS ?_
              rotate_left
              · intro V hV
                go_simp
                (try with_reducible rfl)
              simp only [put_list, List.set_cons_succ, List.set_cons_zero]
              refine wpAnyH_takeL (i := 6) (v := ?_) rfl (by kernel_rfl) (by kernel_rfl) (by kernel_rfl) (fun _ _ _ h => h) (Or.inl ⟨by kernel_rfl, ?_⟩) hS ?_
              rotate_left
              · intro V hV
                go_simp
                (try with_reducible rfl)
              simp only [put_list, List.set_cons_succ, List.set_cons_zero]
              refine wpAnyH_takeL (i := 7) (v := ?_) rfl (by kernel_rfl) (by kernel_rfl) (by kernel_rfl) (fun _ _ _ h => h) (Or.inl ⟨by kernel_rfl, ?_⟩) hS ?_
              rotate_left
              · intro V hV
                have e0 := (hV.cell (p := ad.add (k * 4)) l0).trans d0
                have e1 := (hV.cell (p := ⟨(ad.add (k * 4)).block, (ad.add (k * 4)).off + 1, none⟩) l1).trans d1
                have e2 := (hV.cell (p := ⟨(ad.add (k * 4)).block, (ad.add (k * 4)).off + 2, none⟩) l2).trans d2
                have e3 := (hV.cell (p := ⟨(ad.add (k * 4)).block, (ad.add (k * 4)).off + 3, none⟩) l3).trans d3
                go_simp
                (try with_reducible rfl)
              simp only [put_list, List.set_cons_succ, List.set_cons_zero]
              refine wpAnyH_takeL (i := 8) (v := ?_) rfl (by kernel_rfl) (by kernel_rfl) (by kernel_rfl) (fun _ _ _ h => h) (Or.inl ⟨by kernel_rfl, ?_⟩) hS ?_
              rotate_left
              · intro V hV
                have k0 := (hV.cell (p := ⟨B, 0, none⟩) hlx).trans cx0
                have k1 := (hV.cell (p := ⟨B, 1, none⟩) hlx).trans cx1
                have k2 := (hV.cell (p := ⟨B, 2, none⟩) hlx).trans cx2
                have k3 := (hV.cell (p := ⟨B, 3, none⟩) hlx).trans cx3
                go_simp
                (try with_reducible rfl)
              simp only [put_list, List.set_cons_succ, List.set_cons_zero]
              refine wpAnyH_takeL (i := 9) (v := ?_) rfl (by kernel_rfl) (by kernel_rfl) (by kernel_rfl) (fun _ _ _ h => h) (Or.inl ⟨by kernel_rfl, ?_⟩) hS ?_
              rotate_left
              · intro V hV
                go_simp
                (try with_reducible rfl)
              simp only [put_list, List.set_cons_succ, List.set_cons_zero]
              refine wpAnyH_takeL (i := 10) (v := ?_) rfl (by kernel_rfl) (by kernel_rfl) (by kernel_rfl) (fun _ _ _ h => h) (Or.inl ⟨by kernel_rfl, ?_⟩) hS ?_
              rotate_left
              · intro V hV
                go_simp
                (try with_reducible rfl)
              simp only [put_list, List.set_cons_succ, List.set_cons_zero]
              refine wpAnyH_ready (rs := [11]) (by kernel_rfl) (by simp) (AllReadyH.cons rfl (fun K hK => ?_) AllReadyH.nil)
              go_simp
              refine hK.out _ _ hS (fun hS => ?_)
              clear hK K
              refine wpAnyH_done (by kernel_rfl) ?_ _
              replace HBW := hideP (HBW.out.trans (hS.mono HBW.out.size))
              replace HBf := hideP ((hS.block _ (lt_of_block HBf.out)).trans HBf.out)
              replace HBx := hideP ((hS.block _ (lt_of_block HBx.out)).trans HBx.out)
              replace d0 := (hS.cell (p := ad.add (k * 4)) l0).trans d0
              replace d1 := (hS.cell (p := ⟨(ad.add (k * 4)).block, (ad.add (k * 4)).off + 1, none⟩) l1).trans d1
              replace d2 := (hS.cell (p := ⟨(ad.add (k * 4)).block, (ad.add (k * 4)).off + 2, none⟩) l2).trans d2
              replace d3 := (hS.cell (p := ⟨(ad.add (k * 4)).block, (ad.add (k * 4)).off + 3, none⟩) l3).trans d3
              replace HV := hideP (HV.out.moved hS)
              clear hS l0 l1 l2 l3
              clear cf0 cf1 cf2 cf3 hlf
              clear cx0 cx1 cx2 cx3 hlx
              generalize U1.drew = W9 at *
              obtain ⟨cx0, cx1, cx2, cx3⟩ := cells4 HBx.out
              have xf : ∀ i, W9.frozen? ⟨B, i, none⟩ = false := fun i => blk_free HBx.out
              have HE : ∀ V, V = (((W9.setCell ⟨B, 0, none⟩ (.int .u64 y0)).setCell ⟨B, 1, none⟩ (.int .u64 y1)).setCell ⟨B, 2, none⟩ (.int .u64 y2)).setCell ⟨B, 3, none⟩ (.int .u64 y3) →
                  V.heap[w.heap.size]? = some (.cells #[.int .u64 f0, .int .u64 f1, .int .u64 f2, .int .u64 f3] 30 (0, 0)) ∧ V.heap[B]? = some (.cells #[.int .u64 y0, .int .u64 y1, .int .u64 y2, .int .u64 y3] 30 (0, 0)) ∧ Below w.heap.size w V := by
                have hB := HBB.out
                rintro V rfl
                refine ⟨?_, ?_, ?_⟩
                · repeat first | exact HBf.out | (refine (Below.heap_setCell _ _ _ _ (by dsimp only; omega)).trans ?_)
                · exact blk_set (blk_set (blk_set (blk_set HBx.out _) _) _) _
                · repeat first | exact HBW.out | (refine Below.setCell ?_ (by dsimp only <;> omega) _)
              replace HE := hideP HE
              clear HBx HBf HBW HV
              go_wp2_with fail
              obtain ⟨n1, n2, n3, n4, n5, n6, nY⟩ := HNX.out
              obtain ⟨h1, h2, h3⟩ := HE.out _ rfl
              exact ⟨⟨k + 1, f k, sm + bk, by omega, by omega, rfl, rfl, h1, ⟨y0, y1, y2, y3, nY, h2⟩, n1, by omega, HV0.out.moved h3, h3⟩, by simp [intOf]; omega⟩
            · have hoff := And.intro (Decidable.not_not.1 hfar) hnx
              obtain ⟨x0, x1, x2, x3, hX, HBx⟩ := HX.out
              obtain ⟨ad, hao, y0, y1, y2, y3, hY, d0, d1, d2, d3⟩ := HV.out.cell k hlt
              subst hao
              have d1 : wr.cell? ⟨(ad.add (k * 4)).block, (ad.add (k * 4)).off + 1, none⟩ = some (.int .u64 y1) := d1
              have d2 : wr.cell? ⟨(ad.add (k * 4)).block, (ad.add (k * 4)).off + 2, none⟩ = some (.int .u64 y2) := d2
              have d3 : wr.cell? ⟨(ad.add (k * 4)).block, (ad.add (k * 4)).off + 3, none⟩ = some (.int .u64 y3) := d3
              have hst := fun W => store_any F X (f k) false W
              have hstep := store_step (next := f k % M256) (warm := false) HO.out
              rw [HF.out, hX, hY] at hst
              have q1 := fun W => eq_run X F (b := true) (by simp [hoff.1]) hX HF.out W
              have q2 := fun W => eq_run (f k) X (b := false) (by simp [hoff.2]) hY hX W
              generalize storeN (F % M256) (X % M256) (f k % M256) false = st at *
              obtain ⟨ct, bk⟩ := st
              obtain ⟨hs1, hs2, hs3, hs4, hs5⟩ := hstep
              dsimp only at hst hs1 hs2 hs3 hs4 hs5
              have hs0 := hs1.1
              have t0 : IntKind.i64.wrap (sm + bk) = sm + bk := by rw [IntKind.wrap_i64]; omega
              have t1 : ¬ sm + bk < 0 := by omega
              have t2 : ¬ (ct : Int) < 2900 := by have := hs5 ⟨hoff.1, hoff.2⟩; omega
              have g0 : ¬ 0 < k := by omega
              have g1 : (k : Int) < (n : Int) := by omega
              have g2 : (k : Int) < 1000 := by omega
              have t5 : IntKind.i64.wrap ((k : Int) + 1) = (k : Int) + 1 := by rw [IntKind.wrap_i64]; omega
              have HST := hideP hst
              have HNX := hideP (And.intro hs1 (And.intro hs2 (And.intro hk1 (And.intro h1000 (And.intro hlt (And.intro hsm hY))))))
              replace HBx := hideP HBx
              clear hst hs0 hs1 hs2 hs3 hs4 hs5 HO HX hX hY hsm hlt h1000 hk1 hoff hk0
              have l0 := World.block_lt_of_cell? wr _ d0
              have l1 := World.block_lt_of_cell? wr _ d1
              have l2 := World.block_lt_of_cell? wr _ d2
              have l3 := World.block_lt_of_cell? wr _ d3
              go_wp2_with fail
              obtain ⟨cf0, cf1, cf2, cf3⟩ := cells4 HBf.out
              have hlf := lt_of_block HBf.out
              obtain ⟨cx0, cx1, cx2, cx3⟩ := cells4 HBx.out
              have hlx := lt_of_block HBx.out
              refine wp_region_heldS (S := fun V => Below wr.heap.size wr V) (by kernel_rfl) (Below.refl _ _).drew (fun hS => ?_)
              refine wpAnyH_takeL (i := 0) (v := ?_) rfl (by kernel_rfl) (by kernel_rfl) (by kernel_rfl) (fun _ _ _ h => h) (Or.inl ⟨by kernel_rfl, ?_⟩) hS ?_
              rotate_left
              · intro V hV
                have k0 := (hV.cell (p := ⟨w.heap.size, 0, none⟩) hlf).trans cf0
                have k1 := (hV.cell (p := ⟨w.heap.size, 1, none⟩) hlf).trans cf1
                have k2 := (hV.cell (p := ⟨w.heap.size, 2, none⟩) hlf).trans cf2
                have k3 := (hV.cell (p := ⟨w.heap.size, 3, none⟩) hlf).trans cf3
                go_simp
                (try with_reducible rfl)
              simp only [put_list, List.set_cons_succ, List.set_cons_zero]
              refine wpAnyH_takeL (i := 1) (v := ?_) rfl (by kernel_rfl) (by kernel_rfl) (by kernel_rfl) (fun _ _ _ h => h) (Or.inl ⟨by kernel_rfl, ?_⟩) hS ?_
              rotate_left
              · intro V hV
                have k0 := (hV.cell (p := ⟨B, 0, none⟩) hlx).trans cx0
                have k1 := (hV.cell (p := ⟨B, 1, none⟩) hlx).trans cx1
                have k2 := (hV.cell (p := ⟨B, 2, none⟩) hlx).trans cx2
                have k3 := (hV.cell (p := ⟨B, 3, none⟩) hlx).trans cx3
                go_simp
                (try with_reducible rfl)
              simp only [put_list, List.set_cons_succ, List.set_cons_zero]
              refine wpAnyH_takeL (i := 2) (v := ?_) rfl (by kernel_rfl) (by kernel_rfl) (by kernel_rfl) (fun _ _ _ h => h) (Or.inl ⟨by kernel_rfl, ?_⟩) hS ?_
              rotate_left
              · intro V hV
                go_simp
                (try with_reducible rfl)
              simp only [put_list, List.set_cons_succ, List.set_cons_zero]
              refine wpAnyH_takeL (i := 3) (v := ?_) rfl (by kernel_rfl) (by kernel_rfl) (by kernel_rfl) (fun _ _ _ h => h) (Or.inl ⟨by kernel_rfl, ?_⟩) hS ?_
              rotate_left
              · intro V hV
                go_simp
                (try with_reducible rfl)
              simp only [put_list, List.set_cons_succ, List.set_cons_zero]
              refine wpAnyH_takeL (i := 4) (v := ?_) rfl (by kernel_rfl) (by kernel_rfl) (by kernel_rfl) (fun _ _ _ h => h) (Or.inl ⟨by kernel_rfl, ?_⟩) hS ?_
              rotate_left
              · intro V hV
                go_simp
                (try with_reducible rfl)
              simp only [put_list, List.set_cons_succ, List.set_cons_zero]
              refine wpAnyH_takeL (i := 5) (v := ?_) rfl (by kernel_rfl) (by kernel_rfl) (by kernel_rfl) (fun _ _ _ h => h) (Or.inl ⟨by kernel_rfl, ?_⟩) hS ?_
              rotate_left
              · intro V hV
                have e0 := (hV.cell (p := ad.add (k * 4)) l0).trans d0
                have e1 := (hV.cell (p := ⟨(ad.add (k * 4)).block, (ad.add (k * 4)).off + 1, none⟩) l1).trans d1
                have e2 := (hV.cell (p := ⟨(ad.add (k * 4)).block, (ad.add (k * 4)).off + 2, none⟩) l2).trans d2
                have e3 := (hV.cell (p := ⟨(ad.add (k * 4)).block, (ad.add (k * 4)).off + 3, none⟩) l3).trans d3
                go_simp
                (try with_reducible rfl)
              simp only [put_list, List.set_cons_succ, List.set_cons_zero]
              refine wpAnyH_takeL (i := 6) (v := ?_) rfl (by kernel_rfl) (by kernel_rfl) (by kernel_rfl) (fun _ _ _ h => h) (Or.inl ⟨by kernel_rfl, ?_⟩) hS ?_
              rotate_left
              · intro V hV
                go_simp
                (try with_reducible rfl)
              simp only [put_list, List.set_cons_succ, List.set_cons_zero]
              refine wpAnyH_takeL (i := 7) (v := ?_) rfl (by kernel_rfl) (by kernel_rfl) (by kernel_rfl) (fun _ _ _ h => h) (Or.inl ⟨by kernel_rfl, ?_⟩) hS ?_
              rotate_left
              · intro V hV
                go_simp
                (try with_reducible rfl)
              simp only [put_list, List.set_cons_succ, List.set_cons_zero]
              refine wpAnyH_ready (rs := [8]) (by kernel_rfl) (by simp) (AllReadyH.cons rfl (fun K hK => ?_) AllReadyH.nil)
              go_simp
              refine (HST.out _).mono ?_
              rintro e U1 ⟨rfl, hbc⟩
              refine hK.out _ _ (hS.trans (hbc.mono hS.size)) (fun hS => ?_)
              clear hK K hbc
              refine wpAnyH_takeL (i := 9) (v := ?_) rfl (by kernel_rfl) (by kernel_rfl) (by kernel_rfl) (fun _ _ _ h => h) (Or.inl ⟨by kernel_rfl, ?_⟩) hS ?_
              rotate_left
              · intro V hV
                go_simp
                (try with_reducible rfl)
              simp only [put_list, List.set_cons_succ, List.set_cons_zero]
              refine wpAnyH_takeL (i := 10) (v := ?_) rfl (by kernel_rfl) (by kernel_rfl) (by kernel_rfl) (fun _ _ _ h => h) (Or.inl ⟨by kernel_rfl, ?_⟩) hS ?_
              rotate_left
              · intro V hV
                go_simp
                (try with_reducible rfl)
              simp only [put_list, List.set_cons_succ, List.set_cons_zero]
              refine wpAnyH_takeL (i := 11) (v := ?_) rfl (by kernel_rfl) (by kernel_rfl) (by kernel_rfl) (fun _ _ _ h => h) (Or.inl ⟨by kernel_rfl, ?_⟩) hS ?_
              rotate_left
              · intro V hV
                go_simp
                (try with_reducible rfl)
              simp only [put_list, List.set_cons_succ, List.set_cons_zero]
              refine wpAnyH_ready (rs := [12]) (by kernel_rfl) (by simp) (AllReadyH.cons rfl (fun K hK => ?_) AllReadyH.nil)
              go_simp
              refine hK.out _ _ hS (fun hS => ?_)
              clear hK K
              refine wpAnyH_ready (rs := [13]) (by kernel_rfl) (by simp) (AllReadyH.cons rfl (fun K hK => ?_) AllReadyH.nil)
              go_simp
              refine hK.out _ _ hS (fun hS => ?_)
              clear hK K
              refine wpAnyH_done (by kernel_rfl) ?_ _
              replace HBW := hideP (HBW.out.trans (hS.mono HBW.out.size))
              replace HBf := hideP ((hS.block _ (lt_of_block HBf.out)).trans HBf.out)
              replace HBx := hideP ((hS.block _ (lt_of_block HBx.out)).trans HBx.out)
              replace d0 := (hS.cell (p := ad.add (k * 4)) l0).trans d0
              replace d1 := (hS.cell (p := ⟨(ad.add (k * 4)).block, (ad.add (k * 4)).off + 1, none⟩) l1).trans d1
              replace d2 := (hS.cell (p := ⟨(ad.add (k * 4)).block, (ad.add (k * 4)).off + 2, none⟩) l2).trans d2
              replace d3 := (hS.cell (p := ⟨(ad.add (k * 4)).block, (ad.add (k * 4)).off + 3, none⟩) l3).trans d3
              replace HV := hideP (HV.out.moved hS)
              clear hS l0 l1 l2 l3
              clear cf0 cf1 cf2 cf3 hlf
              clear cx0 cx1 cx2 cx3 hlx
              obtain ⟨cf0, cf1, cf2, cf3⟩ := cells4 HBf.out
              have hlf := lt_of_block HBf.out
              obtain ⟨cx0, cx1, cx2, cx3⟩ := cells4 HBx.out
              have hlx := lt_of_block HBx.out
              have l0 := World.block_lt_of_cell? U1 _ d0
              have l1 := World.block_lt_of_cell? U1 _ d1
              have l2 := World.block_lt_of_cell? U1 _ d2
              have l3 := World.block_lt_of_cell? U1 _ d3
              go_wp2_with fail
              refine wp_region_heldS (S := fun V => Below U1.heap.size U1 V) (by kernel_rfl) (Below.refl _ _).drew (fun hS => ?_)
              refine wpAnyH_takeL (i := 0) (v := ?_) rfl (by kernel_rfl) (by kernel_rfl) (by kernel_rfl) (fun _ _ _ h => h) (Or.inl ⟨by kernel_rfl, ?_⟩) hS ?_
              rotate_left
              · intro V hV
                have k0 := (hV.cell (p := ⟨B, 0, none⟩) hlx).trans cx0
                have k1 := (hV.cell (p := ⟨B, 1, none⟩) hlx).trans cx1
                have k2 := (hV.cell (p := ⟨B, 2, none⟩) hlx).trans cx2
                have k3 := (hV.cell (p := ⟨B, 3, none⟩) hlx).trans cx3
                go_simp
                (try with_reducible rfl)
              simp only [put_list, List.set_cons_succ, List.set_cons_zero]
              refine wpAnyH_takeL (i := 1) (v := ?_) rfl (by kernel_rfl) (by kernel_rfl) (by kernel_rfl) (fun _ _ _ h => h) (Or.inl ⟨by kernel_rfl, ?_⟩) hS ?_
              rotate_left
              · intro V hV
                have k0 := (hV.cell (p := ⟨w.heap.size, 0, none⟩) hlf).trans cf0
                have k1 := (hV.cell (p := ⟨w.heap.size, 1, none⟩) hlf).trans cf1
                have k2 := (hV.cell (p := ⟨w.heap.size, 2, none⟩) hlf).trans cf2
                have k3 := (hV.cell (p := ⟨w.heap.size, 3, none⟩) hlf).trans cf3
                go_simp
                (try with_reducible rfl)
              simp only [put_list, List.set_cons_succ, List.set_cons_zero]
              refine wpAnyH_takeL (i := 2) (v := ?_) rfl (by kernel_rfl) (by kernel_rfl) (by kernel_rfl) (fun _ _ _ h => h) (Or.inl ⟨by kernel_rfl, ?_⟩) hS ?_
              rotate_left
              · intro V hV
                go_simp
                (try with_reducible rfl)
              simp only [put_list, List.set_cons_succ, List.set_cons_zero]
              refine wpAnyH_takeL (i := 3) (v := ?_) rfl (by kernel_rfl) (by kernel_rfl) (by kernel_rfl) (fun _ _ _ h => h) (Or.inl ⟨by kernel_rfl, ?_⟩) hS ?_
              rotate_left
              · intro V hV
                go_simp
                (try with_reducible rfl)
              simp only [put_list, List.set_cons_succ, List.set_cons_zero]
              refine wpAnyH_takeL (i := 4) (v := ?_) rfl (by kernel_rfl) (by kernel_rfl) (by kernel_rfl) (fun _ _ _ h => h) (Or.inl ⟨by kernel_rfl, ?_⟩) hS ?_
              rotate_left
              · intro V hV
                go_simp
                (try with_reducible rfl)
              simp only [put_list, List.set_cons_succ, List.set_cons_zero]
              refine wpAnyH_takeL (i := 5) (v := ?_) rfl (by kernel_rfl) (by kernel_rfl) (by kernel_rfl) (fun _ _ _ h => h) (Or.inl ⟨by kernel_rfl, ?_⟩) hS ?_
              rotate_left
              · intro V hV
                go_simp
                (try with_reducible rfl)
              simp only [put_list, List.set_cons_succ, List.set_cons_zero]
              refine wpAnyH_takeL (i := 6) (v := ?_) rfl (by kernel_rfl) (by kernel_rfl) (by kernel_rfl) (fun _ _ _ h => h) (Or.inl ⟨by kernel_rfl, ?_⟩) hS ?_
              rotate_left
              · intro V hV
                go_simp
                (try with_reducible rfl)
              simp only [put_list, List.set_cons_succ, List.set_cons_zero]
              refine wpAnyH_takeL (i := 7) (v := ?_) rfl (by kernel_rfl) (by kernel_rfl) (by kernel_rfl) (fun _ _ _ h => h) (Or.inl ⟨by kernel_rfl, ?_⟩) hS ?_
              rotate_left
              · intro V hV
                have e0 := (hV.cell (p := ad.add (k * 4)) l0).trans d0
                have e1 := (hV.cell (p := ⟨(ad.add (k * 4)).block, (ad.add (k * 4)).off + 1, none⟩) l1).trans d1
                have e2 := (hV.cell (p := ⟨(ad.add (k * 4)).block, (ad.add (k * 4)).off + 2, none⟩) l2).trans d2
                have e3 := (hV.cell (p := ⟨(ad.add (k * 4)).block, (ad.add (k * 4)).off + 3, none⟩) l3).trans d3
                go_simp
                (try with_reducible rfl)
              simp only [put_list, List.set_cons_succ, List.set_cons_zero]
              refine wpAnyH_takeL (i := 8) (v := ?_) rfl (by kernel_rfl) (by kernel_rfl) (by kernel_rfl) (fun _ _ _ h => h) (Or.inl ⟨by kernel_rfl, ?_⟩) hS ?_
              rotate_left
              · intro V hV
                have k0 := (hV.cell (p := ⟨B, 0, none⟩) hlx).trans cx0
                have k1 := (hV.cell (p := ⟨B, 1, none⟩) hlx).trans cx1
                have k2 := (hV.cell (p := ⟨B, 2, none⟩) hlx).trans cx2
                have k3 := (hV.cell (p := ⟨B, 3, none⟩) hlx).trans cx3
                go_simp
                (try with_reducible rfl)
              simp only [put_list, List.set_cons_succ, List.set_cons_zero]
              refine wpAnyH_takeL (i := 9) (v := ?_) rfl (by kernel_rfl) (by kernel_rfl) (by kernel_rfl) (fun _ _ _ h => h) (Or.inl ⟨by kernel_rfl, ?_⟩) hS ?_
              rotate_left
              · intro V hV
                go_simp
                (try with_reducible rfl)
              simp only [put_list, List.set_cons_succ, List.set_cons_zero]
              refine wpAnyH_takeL (i := 10) (v := ?_) rfl (by kernel_rfl) (by kernel_rfl) (by kernel_rfl) (fun _ _ _ h => h) (Or.inl ⟨by kernel_rfl, ?_⟩) hS ?_
              rotate_left
              · intro V hV
                go_simp
                (try with_reducible rfl)
              simp only [put_list, List.set_cons_succ, List.set_cons_zero]
              refine wpAnyH_ready (rs := [11]) (by kernel_rfl) (by simp) (AllReadyH.cons rfl (fun K hK => ?_) AllReadyH.nil)
              go_simp
              refine hK.out _ _ hS (fun hS => ?_)
              clear hK K
              refine wpAnyH_done (by kernel_rfl) ?_ _
              replace HBW := hideP (HBW.out.trans (hS.mono HBW.out.size))
              replace HBf := hideP ((hS.block _ (lt_of_block HBf.out)).trans HBf.out)
              replace HBx := hideP ((hS.block _ (lt_of_block HBx.out)).trans HBx.out)
              replace d0 := (hS.cell (p := ad.add (k * 4)) l0).trans d0
              replace d1 := (hS.cell (p := ⟨(ad.add (k * 4)).block, (ad.add (k * 4)).off + 1, none⟩) l1).trans d1
              replace d2 := (hS.cell (p := ⟨(ad.add (k * 4)).block, (ad.add (k * 4)).off + 2, none⟩) l2).trans d2
              replace d3 := (hS.cell (p := ⟨(ad.add (k * 4)).block, (ad.add (k * 4)).off + 3, none⟩) l3).trans d3
              replace HV := hideP (HV.out.moved hS)
              clear hS l0 l1 l2 l3
              clear cf0 cf1 cf2 cf3 hlf
              clear cx0 cx1 cx2 cx3 hlx
              generalize U1.drew = W9 at *
              obtain ⟨cx0, cx1, cx2, cx3⟩ := cells4 HBx.out
              have xf : ∀ i, W9.frozen? ⟨B, i, none⟩ = false := fun i => blk_free HBx.out
              have HE : ∀ V, V = (((W9.setCell ⟨B, 0, none⟩ (.int .u64 y0)).setCell ⟨B, 1, none⟩ (.int .u64 y1)).setCell ⟨B, 2, none⟩ (.int .u64 y2)).setCell ⟨B, 3, none⟩ (.int .u64 y3) →
                  V.heap[w.heap.size]? = some (.cells #[.int .u64 f0, .int .u64 f1, .int .u64 f2, .int .u64 f3] 30 (0, 0)) ∧ V.heap[B]? = some (.cells #[.int .u64 y0, .int .u64 y1, .int .u64 y2, .int .u64 y3] 30 (0, 0)) ∧ Below w.heap.size w V := by
                have hB := HBB.out
                rintro V rfl
                refine ⟨?_, ?_, ?_⟩
                · repeat first | exact HBf.out | (refine (Below.heap_setCell _ _ _ _ (by dsimp only; omega)).trans ?_)
                · exact blk_set (blk_set (blk_set (blk_set HBx.out _) _) _) _
                · repeat first | exact HBW.out | (refine Below.setCell ?_ (by dsimp only <;> omega) _)
              replace HE := hideP HE
              clear HBx HBf HBW HV
              go_wp2_with fail
              obtain ⟨n1, n2, n3, n4, n5, n6, nY⟩ := HNX.out
              obtain ⟨h1, h2, h3⟩ := HE.out _ rfl
              exact ⟨⟨k + 1, f k, sm + bk, by omega, by omega, rfl, rfl, h1, ⟨y0, y1, y2, y3, nY, h2⟩, n1, by omega, HV0.out.moved h3, h3⟩, by simp [intOf]; omega⟩
        · by_cases hfar : ¬ X % M256 = F % M256
          · obtain ⟨x0, x1, x2, x3, hX, HBx⟩ := HX.out
            obtain ⟨ad, hao, y0, y1, y2, y3, hY, d0, d1, d2, d3⟩ := HV.out.cell k hlt
            subst hao
            have d1 : wr.cell? ⟨(ad.add (k * 4)).block, (ad.add (k * 4)).off + 1, none⟩ = some (.int .u64 y1) := d1
            have d2 : wr.cell? ⟨(ad.add (k * 4)).block, (ad.add (k * 4)).off + 2, none⟩ = some (.int .u64 y2) := d2
            have d3 : wr.cell? ⟨(ad.add (k * 4)).block, (ad.add (k * 4)).off + 3, none⟩ = some (.int .u64 y3) := d3
            have hst := fun W => store_any F X (f k) true W
            have hstep := store_step (next := f k % M256) (warm := true) HO.out
            rw [HF.out, hX, hY] at hst
            have q1 := fun W => eq_run X F (b := false) (by simp [hfar]) hX HF.out W
            generalize storeN (F % M256) (X % M256) (f k % M256) true = st at *
            obtain ⟨ct, bk⟩ := st
            obtain ⟨hs1, hs2, hs3, hs4, hs5⟩ := hstep
            dsimp only at hst hs1 hs2 hs3 hs4 hs5
            have hs0 := hs1.1
            have t0 : IntKind.i64.wrap (sm + bk) = sm + bk := by rw [IntKind.wrap_i64]; omega
            have t1 : ¬ sm + bk < 0 := by omega
            have t2 : ct = 100 := hs4 (fun h => hfar h.1)
            subst t2
            have g0 : 0 < k := by omega
            have g1 : (k : Int) < (n : Int) := by omega
            have g2 : (k : Int) < 1000 := by omega
            have t5 : IntKind.i64.wrap ((k : Int) + 1) = (k : Int) + 1 := by rw [IntKind.wrap_i64]; omega
            have HST := hideP hst
            have HNX := hideP (And.intro hs1 (And.intro hs2 (And.intro hk1 (And.intro h1000 (And.intro hlt (And.intro hsm hY))))))
            replace HBx := hideP HBx
            clear hst hs0 hs1 hs2 hs3 hs4 hs5 HO HX hX hY hsm hlt h1000 hk1 hfar hk0
            have l0 := World.block_lt_of_cell? wr _ d0
            have l1 := World.block_lt_of_cell? wr _ d1
            have l2 := World.block_lt_of_cell? wr _ d2
            have l3 := World.block_lt_of_cell? wr _ d3
            go_wp2_with fail
            obtain ⟨cf0, cf1, cf2, cf3⟩ := cells4 HBf.out
            have hlf := lt_of_block HBf.out
            obtain ⟨cx0, cx1, cx2, cx3⟩ := cells4 HBx.out
            have hlx := lt_of_block HBx.out
            refine wp_region_heldS (S := fun V => Below wr.heap.size wr V) (by kernel_rfl) (Below.refl _ _).drew (fun hS => ?_)
            refine wpAnyH_takeL (i := 0) (v := ?_) rfl (by kernel_rfl) (by kernel_rfl) (by kernel_rfl) (fun _ _ _ h => h) (Or.inl ⟨by kernel_rfl, ?_⟩) hS ?_
            rotate_left
            · intro V hV
              have k0 := (hV.cell (p := ⟨w.heap.size, 0, none⟩) hlf).trans cf0
              have k1 := (hV.cell (p := ⟨w.heap.size, 1, none⟩) hlf).trans cf1
              have k2 := (hV.cell (p := ⟨w.heap.size, 2, none⟩) hlf).trans cf2
              have k3 := (hV.cell (p := ⟨w.heap.size, 3, none⟩) hlf).trans cf3
              go_simp
              (try with_reducible rfl)
            simp only [put_list, List.set_cons_succ, List.set_cons_zero]
            refine wpAnyH_takeL (i := 1) (v := ?_) rfl (by kernel_rfl) (by kernel_rfl) (by kernel_rfl) (fun _ _ _ h => h) (Or.inl ⟨by kernel_rfl, ?_⟩) hS ?_
            rotate_left
            · intro V hV
              have k0 := (hV.cell (p := ⟨B, 0, none⟩) hlx).trans cx0
              have k1 := (hV.cell (p := ⟨B, 1, none⟩) hlx).trans cx1
              have k2 := (hV.cell (p := ⟨B, 2, none⟩) hlx).trans cx2
              have k3 := (hV.cell (p := ⟨B, 3, none⟩) hlx).trans cx3
              go_simp
              (try with_reducible rfl)
            simp only [put_list, List.set_cons_succ, List.set_cons_zero]
            refine wpAnyH_takeL (i := 2) (v := ?_) rfl (by kernel_rfl) (by kernel_rfl) (by kernel_rfl) (fun _ _ _ h => h) (Or.inl ⟨by kernel_rfl, ?_⟩) hS ?_
            rotate_left
            · intro V hV
              go_simp
              (try with_reducible rfl)
            simp only [put_list, List.set_cons_succ, List.set_cons_zero]
            refine wpAnyH_takeL (i := 3) (v := ?_) rfl (by kernel_rfl) (by kernel_rfl) (by kernel_rfl) (fun _ _ _ h => h) (Or.inl ⟨by kernel_rfl, ?_⟩) hS ?_
            rotate_left
            · intro V hV
              go_simp
              (try with_reducible rfl)
            simp only [put_list, List.set_cons_succ, List.set_cons_zero]
            refine wpAnyH_takeL (i := 4) (v := ?_) rfl (by kernel_rfl) (by kernel_rfl) (by kernel_rfl) (fun _ _ _ h => h) (Or.inl ⟨by kernel_rfl, ?_⟩) hS ?_
            rotate_left
            · intro V hV
              go_simp
              (try with_reducible rfl)
            simp only [put_list, List.set_cons_succ, List.set_cons_zero]
            refine wpAnyH_takeL (i := 5) (v := ?_) rfl (by kernel_rfl) (by kernel_rfl) (by kernel_rfl) (fun _ _ _ h => h) (Or.inl ⟨by kernel_rfl, ?_⟩) hS ?_
            rotate_left
            · intro V hV
              have e0 := (hV.cell (p := ad.add (k * 4)) l0).trans d0
              have e1 := (hV.cell (p := ⟨(ad.add (k * 4)).block, (ad.add (k * 4)).off + 1, none⟩) l1).trans d1
              have e2 := (hV.cell (p := ⟨(ad.add (k * 4)).block, (ad.add (k * 4)).off + 2, none⟩) l2).trans d2
              have e3 := (hV.cell (p := ⟨(ad.add (k * 4)).block, (ad.add (k * 4)).off + 3, none⟩) l3).trans d3
              go_simp
              (try with_reducible rfl)
            simp only [put_list, List.set_cons_succ, List.set_cons_zero]
            refine wpAnyH_takeL (i := 6) (v := ?_) rfl (by kernel_rfl) (by kernel_rfl) (by kernel_rfl) (fun _ _ _ h => h) (Or.inl ⟨by kernel_rfl, ?_⟩) hS ?_
            rotate_left
            · intro V hV
              go_simp
              (try with_reducible rfl)
            simp only [put_list, List.set_cons_succ, List.set_cons_zero]
            refine wpAnyH_takeL (i := 7) (v := ?_) rfl (by kernel_rfl) (by kernel_rfl) (by kernel_rfl) (fun _ _ _ h => h) (Or.inl ⟨by kernel_rfl, ?_⟩) hS ?_
            rotate_left
            · intro V hV
              go_simp
              (try with_reducible rfl)
            simp only [put_list, List.set_cons_succ, List.set_cons_zero]
            refine wpAnyH_ready (rs := [8]) (by kernel_rfl) (by simp) (AllReadyH.cons rfl (fun K hK => ?_) AllReadyH.nil)
            go_simp
            refine (HST.out _).mono ?_
            rintro e U1 ⟨rfl, hbc⟩
            refine hK.out _ _ (hS.trans (hbc.mono hS.size)) (fun hS => ?_)
            clear hK K hbc
            refine wpAnyH_takeL (i := 9) (v := ?_) rfl (by kernel_rfl) (by kernel_rfl) (by kernel_rfl) (fun _ _ _ h => h) (Or.inl ⟨by kernel_rfl, ?_⟩) hS ?_
            rotate_left
            · intro V hV
              go_simp
              (try with_reducible rfl)
            simp only [put_list, List.set_cons_succ, List.set_cons_zero]
            refine wpAnyH_takeL (i := 10) (v := ?_) rfl (by kernel_rfl) (by kernel_rfl) (by kernel_rfl) (fun _ _ _ h => h) (Or.inl ⟨by kernel_rfl, ?_⟩) hS ?_
            rotate_left
            · intro V hV
              go_simp
              (try with_reducible rfl)
            simp only [put_list, List.set_cons_succ, List.set_cons_zero]
            refine wpAnyH_takeL (i := 11) (v := ?_) rfl (by kernel_rfl) (by kernel_rfl) (by kernel_rfl) (fun _ _ _ h => h) (Or.inl ⟨by kernel_rfl, ?_⟩) hS ?_
            rotate_left
            · intro V hV
              go_simp
              (try with_reducible rfl)
            simp only [put_list, List.set_cons_succ, List.set_cons_zero]
            refine wpAnyH_ready (rs := [12]) (by kernel_rfl) (by simp) (AllReadyH.cons rfl (fun K hK => ?_) AllReadyH.nil)
            go_simp
            refine hK.out _ _ hS (fun hS => ?_)
            clear hK K
            refine wpAnyH_ready (rs := [13]) (by kernel_rfl) (by simp) (AllReadyH.cons rfl (fun K hK => ?_) AllReadyH.nil)
            go_simp
            refine hK.out _ _ hS (fun hS => ?_)
            clear hK K
            refine wpAnyH_done (by kernel_rfl) ?_ _
            replace HBW := hideP (HBW.out.trans (hS.mono HBW.out.size))
            replace HBf := hideP ((hS.block _ (lt_of_block HBf.out)).trans HBf.out)
            replace HBx := hideP ((hS.block _ (lt_of_block HBx.out)).trans HBx.out)
            replace d0 := (hS.cell (p := ad.add (k * 4)) l0).trans d0
            replace d1 := (hS.cell (p := ⟨(ad.add (k * 4)).block, (ad.add (k * 4)).off + 1, none⟩) l1).trans d1
            replace d2 := (hS.cell (p := ⟨(ad.add (k * 4)).block, (ad.add (k * 4)).off + 2, none⟩) l2).trans d2
            replace d3 := (hS.cell (p := ⟨(ad.add (k * 4)).block, (ad.add (k * 4)).off + 3, none⟩) l3).trans d3
            replace HV := hideP (HV.out.moved hS)
            clear hS l0 l1 l2 l3
            clear cf0 cf1 cf2 cf3 hlf
            clear cx0 cx1 cx2 cx3 hlx
            obtain ⟨cf0, cf1, cf2, cf3⟩ := cells4 HBf.out
            have hlf := lt_of_block HBf.out
            obtain ⟨cx0, cx1, cx2, cx3⟩ := cells4 HBx.out
            have hlx := lt_of_block HBx.out
            have l0 := World.block_lt_of_cell? U1 _ d0
            have l1 := World.block_lt_of_cell? U1 _ d1
            have l2 := World.block_lt_of_cell? U1 _ d2
            have l3 := World.block_lt_of_cell? U1 _ d3
            go_wp2_with fail
            refine wp_region_heldS (S := fun V => Below U1.heap.size U1 V) (by kernel_rfl) (Below.refl _ _).drew (fun hS => ?_)
            refine wpAnyH_takeL (i := 0) (v := ?_) rfl (by kernel_rfl) (by kernel_rfl) (by kernel_rfl) (fun _ _ _ h => h) (Or.inl ⟨by kernel_rfl, ?_⟩) hS ?_
            rotate_left
            · intro V hV
              have k0 := (hV.cell (p := ⟨B, 0, none⟩) hlx).trans cx0
              have k1 := (hV.cell (p := ⟨B, 1, none⟩) hlx).trans cx1
              have k2 := (hV.cell (p := ⟨B, 2, none⟩) hlx).trans cx2
              have k3 := (hV.cell (p := ⟨B, 3, none⟩) hlx).trans cx3
              go_simp
              (try with_reducible rfl)
            simp only [put_list, List.set_cons_succ, List.set_cons_zero]
            refine wpAnyH_takeL (i := 1) (v := ?_) rfl (by kernel_rfl) (by kernel_rfl) (by kernel_rfl) (fun _ _ _ h => h) (Or.inl ⟨by kernel_rfl, ?_⟩) hS ?_
            rotate_left
            · intro V hV
              have k0 := (hV.cell (p := ⟨w.heap.size, 0, none⟩) hlf).trans cf0
              have k1 := (hV.cell (p := ⟨w.heap.size, 1, none⟩) hlf).trans cf1
              have k2 := (hV.cell (p := ⟨w.heap.size, 2, none⟩) hlf).trans cf2
              have k3 := (hV.cell (p := ⟨w.heap.size, 3, none⟩) hlf).trans cf3
              go_simp
              (try with_reducible rfl)
            simp only [put_list, List.set_cons_succ, List.set_cons_zero]
            refine wpAnyH_takeL (i := 2) (v := ?_) rfl (by kernel_rfl) (by kernel_rfl) (by kernel_rfl) (fun _ _ _ h => h) (Or.inl ⟨by kernel_rfl, ?_⟩) hS ?_
            rotate_left
            · intro V hV
              go_simp
              (try with_reducible rfl)
            simp only [put_list, List.set_cons_succ, List.set_cons_zero]
            refine wpAnyH_takeL (i := 3) (v := ?_) rfl (by kernel_rfl) (by kernel_rfl) (by kernel_rfl) (fun _ _ _ h => h) (Or.inl ⟨by kernel_rfl, ?_⟩) hS ?_
            rotate_left
            · intro V hV
              go_simp
              (try with_reducible rfl)
            simp only [put_list, List.set_cons_succ, List.set_cons_zero]
            refine wpAnyH_takeL (i := 4) (v := undef) rfl (by kernel_rfl) (by kernel_rfl) (by kernel_rfl) (fun _ _ _ h => h) (Or.inr ⟨by kernel_rfl, rfl⟩) hS ?_
            simp only [put_list, List.set_cons_succ, List.set_cons_zero]
            refine wpAnyH_takeL (i := 5) (v := undef) rfl (by kernel_rfl) (by kernel_rfl) (by kernel_rfl) (fun _ _ _ h => h) (Or.inr ⟨by kernel_rfl, rfl⟩) hS ?_
            simp only [put_list, List.set_cons_succ, List.set_cons_zero]
            refine wpAnyH_takeL (i := 6) (v := undef) rfl (by kernel_rfl) (by kernel_rfl) (by kernel_rfl) (fun _ _ _ h => h) (Or.inr ⟨by kernel_rfl, rfl⟩) hS ?_
            simp only [put_list, List.set_cons_succ, List.set_cons_zero]
            refine wpAnyH_takeL (i := 7) (v := undef) rfl (by kernel_rfl) (by kernel_rfl) (by kernel_rfl) (fun _ _ _ h => h) (Or.inr ⟨by kernel_rfl, rfl⟩) hS ?_
            simp only [put_list, List.set_cons_succ, List.set_cons_zero]
            refine wpAnyH_takeL (i := 8) (v := undef) rfl (by kernel_rfl) (by kernel_rfl) (by kernel_rfl) (fun _ _ _ h => h) (Or.inr ⟨by kernel_rfl, rfl⟩) hS ?_
            simp only [put_list, List.set_cons_succ, List.set_cons_zero]
            refine wpAnyH_takeL (i := 9) (v := undef) rfl (by kernel_rfl) (by kernel_rfl) (by kernel_rfl) (fun _ _ _ h => h) (Or.inr ⟨by kernel_rfl, rfl⟩) hS ?_
            simp only [put_list, List.set_cons_succ, List.set_cons_zero]
            refine wpAnyH_takeL (i := 10) (v := ?_) rfl (by kernel_rfl) (by kernel_rfl) (by kernel_rfl) (fun _ _ _ h => h) (Or.inl ⟨by kernel_rfl, ?_⟩) hS ?_
            rotate_left
            · intro V hV
              go_simp
              (try with_reducible rfl)
            simp only [put_list, List.set_cons_succ, List.set_cons_zero]
            refine wpAnyH_ready (rs := [11]) (by kernel_rfl) (by simp) (AllReadyH.cons rfl (fun K hK => ?_) AllReadyH.nil)
            go_simp
            refine hK.out _ _ hS (fun hS => ?_)
            clear hK K
            refine wpAnyH_done (by kernel_rfl) ?_ _
            replace HBW := hideP (HBW.out.trans (hS.mono HBW.out.size))
            replace HBf := hideP ((hS.block _ (lt_of_block HBf.out)).trans HBf.out)
            replace HBx := hideP ((hS.block _ (lt_of_block HBx.out)).trans HBx.out)
            replace d0 := (hS.cell (p := ad.add (k * 4)) l0).trans d0
            replace d1 := (hS.cell (p := ⟨(ad.add (k * 4)).block, (ad.add (k * 4)).off + 1, none⟩) l1).trans d1
            replace d2 := (hS.cell (p := ⟨(ad.add (k * 4)).block, (ad.add (k * 4)).off + 2, none⟩) l2).trans d2
            replace d3 := (hS.cell (p := ⟨(ad.add (k * 4)).block, (ad.add (k * 4)).off + 3, none⟩) l3).trans d3
            replace HV := hideP (HV.out.moved hS)
            clear hS l0 l1 l2 l3
            clear cf0 cf1 cf2 cf3 hlf
            clear cx0 cx1 cx2 cx3 hlx
            generalize U1.drew = W9 at *
            obtain ⟨cx0, cx1, cx2, cx3⟩ := cells4 HBx.out
            have xf : ∀ i, W9.frozen? ⟨B, i, none⟩ = false := fun i => blk_free HBx.out
            have HE : ∀ V, V = (((W9.setCell ⟨B, 0, none⟩ (.int .u64 y0)).setCell ⟨B, 1, none⟩ (.int .u64 y1)).setCell ⟨B, 2, none⟩ (.int .u64 y2)).setCell ⟨B, 3, none⟩ (.int .u64 y3) →
                V.heap[w.heap.size]? = some (.cells #[.int .u64 f0, .int .u64 f1, .int .u64 f2, .int .u64 f3] 30 (0, 0)) ∧ V.heap[B]? = some (.cells #[.int .u64 y0, .int .u64 y1, .int .u64 y2, .int .u64 y3] 30 (0, 0)) ∧ Below w.heap.size w V := by
              have hB := HBB.out
              rintro V rfl
              refine ⟨?_, ?_, ?_⟩
              · repeat first | exact HBf.out | (refine (Below.heap_setCell _ _ _ _ (by dsimp only; omega)).trans ?_)
              · exact blk_set (blk_set (blk_set (blk_set HBx.out _) _) _) _
              · repeat first | exact HBW.out | (refine Below.setCell ?_ (by dsimp only <;> omega) _)
            replace HE := hideP HE
            clear HBx HBf HBW HV
            go_wp2_with fail
            obtain ⟨n1, n2, n3, n4, n5, n6, nY⟩ := HNX.out
            obtain ⟨h1, h2, h3⟩ := HE.out _ rfl
            exact ⟨⟨k + 1, f k, sm + bk, by omega, by omega, rfl, rfl, h1, ⟨y0, y1, y2, y3, nY, h2⟩, n1, by omega, HV0.out.moved h3, h3⟩, by simp [intOf]; omega⟩
          · by_cases hnx : f k % M256 = X % M256
            · have hsame := And.intro (Decidable.not_not.1 hfar) hnx
              obtain ⟨x0, x1, x2, x3, hX, HBx⟩ := HX.out
              obtain ⟨ad, hao, y0, y1, y2, y3, hY, d0, d1, d2, d3⟩ := HV.out.cell k hlt
              subst hao
              have d1 : wr.cell? ⟨(ad.add (k * 4)).block, (ad.add (k * 4)).off + 1, none⟩ = some (.int .u64 y1) := d1
              have d2 : wr.cell? ⟨(ad.add (k * 4)).block, (ad.add (k * 4)).off + 2, none⟩ = some (.int .u64 y2) := d2
              have d3 : wr.cell? ⟨(ad.add (k * 4)).block, (ad.add (k * 4)).off + 3, none⟩ = some (.int .u64 y3) := d3
              have hst := fun W => store_any F X (f k) true W
              have hstep := store_step (next := f k % M256) (warm := true) HO.out
              rw [HF.out, hX, hY] at hst
              have q1 := fun W => eq_run X F (b := true) (by simp [hsame.1]) hX HF.out W
              have q2 := fun W => eq_run (f k) X (b := true) (by simp [hsame.2]) hY hX W
              generalize storeN (F % M256) (X % M256) (f k % M256) true = st at *
              obtain ⟨ct, bk⟩ := st
              obtain ⟨hs1, hs2, hs3, hs4, hs5⟩ := hstep
              dsimp only at hst hs1 hs2 hs3 hs4 hs5
              have hs0 := hs1.1
              have t0 : IntKind.i64.wrap (sm + bk) = sm + bk := by rw [IntKind.wrap_i64]; omega
              have t1 : ¬ sm + bk < 0 := by omega
              have t2 : ct = 100 := hs4 (fun h => h.2 hsame.2)
              subst t2
              have g0 : 0 < k := by omega
              have g1 : (k : Int) < (n : Int) := by omega
              have g2 : (k : Int) < 1000 := by omega
              have t5 : IntKind.i64.wrap ((k : Int) + 1) = (k : Int) + 1 := by rw [IntKind.wrap_i64]; omega
              have HST := hideP hst
              have HNX := hideP (And.intro hs1 (And.intro hs2 (And.intro hk1 (And.intro h1000 (And.intro hlt (And.intro hsm hY))))))
              replace HBx := hideP HBx
              clear hst hs0 hs1 hs2 hs3 hs4 hs5 HO HX hX hY hsm hlt h1000 hk1 hsame hk0
              have l0 := World.block_lt_of_cell? wr _ d0
              have l1 := World.block_lt_of_cell? wr _ d1
              have l2 := World.block_lt_of_cell? wr _ d2
              have l3 := World.block_lt_of_cell? wr _ d3
              go_wp2_with fail
              obtain ⟨cf0, cf1, cf2, cf3⟩ := cells4 HBf.out
              have hlf := lt_of_block HBf.out
              obtain ⟨cx0, cx1, cx2, cx3⟩ := cells4 HBx.out
              have hlx := lt_of_block HBx.out
              refine wp_region_heldS (S := fun V => Below wr.heap.size wr V) (by kernel_rfl) (Below.refl _ _).drew (fun hS => ?_)
              refine wpAnyH_takeL (i := 0) (v := ?_) rfl (by kernel_rfl) (by kernel_rfl) (by kernel_rfl) (fun _ _ _ h => h) (Or.inl ⟨by kernel_rfl, ?_⟩) hS ?_
              rotate_left
              · intro V hV
                have k0 := (hV.cell (p := ⟨w.heap.size, 0, none⟩) hlf).trans cf0
                have k1 := (hV.cell (p := ⟨w.heap.size, 1, none⟩) hlf).trans cf1
                have k2 := (hV.cell (p := ⟨w.heap.size, 2, none⟩) hlf).trans cf2
                have k3 := (hV.cell (p := ⟨w.heap.size, 3, none⟩) hlf).trans cf3
                go_simp
                (try with_reducible rfl)
              simp only [put_list, List.set_cons_succ, List.set_cons_zero]
              refine wpAnyH_takeL (i := 1) (v := ?_) rfl (by kernel_rfl) (by kernel_rfl) (by kernel_rfl) (fun _ _ _ h => h) (Or.inl ⟨by kernel_rfl, ?_⟩) hS ?_
              rotate_left
              · intro V hV
                have k0 := (hV.cell (p := ⟨B, 0, none⟩) hlx).trans cx0
                have k1 := (hV.cell (p := ⟨B, 1, none⟩) hlx).trans cx1
                have k2 := (hV.cell (p := ⟨B, 2, none⟩) hlx).trans cx2
                have k3 := (hV.cell (p := ⟨B, 3, none⟩) hlx).trans cx3
                go_simp
                (try with_reducible rfl)
              simp only [put_list, List.set_cons_succ, List.set_cons_zero]
              refine wpAnyH_takeL (i := 2) (v := ?_) rfl (by kernel_rfl) (by kernel_rfl) (by kernel_rfl) (fun _ _ _ h => h) (Or.inl ⟨by kernel_rfl, ?_⟩) hS ?_
              rotate_left
              · intro V hV
                go_simp
                (try with_reducible rfl)
              simp only [put_list, List.set_cons_succ, List.set_cons_zero]
              refine wpAnyH_takeL (i := 3) (v := ?_) rfl (by kernel_rfl) (by kernel_rfl) (by kernel_rfl) (fun _ _ _ h => h) (Or.inl ⟨by kernel_rfl, ?_⟩) hS ?_
              rotate_left
              · intro V hV
                go_simp
                (try with_reducible rfl)
              simp only [put_list, List.set_cons_succ, List.set_cons_zero]
              refine wpAnyH_takeL (i := 4) (v := ?_) rfl (by kernel_rfl) (by kernel_rfl) (by kernel_rfl) (fun _ _ _ h => h) (Or.inl ⟨by kernel_rfl, ?_⟩) hS ?_
              rotate_left
              · intro V hV
                go_simp
                (try with_reducible rfl)
              simp only [put_list, List.set_cons_succ, List.set_cons_zero]
              refine wpAnyH_takeL (i := 5) (v := ?_) rfl (by kernel_rfl) (by kernel_rfl) (by kernel_rfl) (fun _ _ _ h => h) (Or.inl ⟨by kernel_rfl, ?_⟩) hS ?_
              rotate_left
              · intro V hV
                have e0 := (hV.cell (p := ad.add (k * 4)) l0).trans d0
                have e1 := (hV.cell (p := ⟨(ad.add (k * 4)).block, (ad.add (k * 4)).off + 1, none⟩) l1).trans d1
                have e2 := (hV.cell (p := ⟨(ad.add (k * 4)).block, (ad.add (k * 4)).off + 2, none⟩) l2).trans d2
                have e3 := (hV.cell (p := ⟨(ad.add (k * 4)).block, (ad.add (k * 4)).off + 3, none⟩) l3).trans d3
                go_simp
                (try with_reducible rfl)
              simp only [put_list, List.set_cons_succ, List.set_cons_zero]
              refine wpAnyH_takeL (i := 6) (v := ?_) rfl (by kernel_rfl) (by kernel_rfl) (by kernel_rfl) (fun _ _ _ h => h) (Or.inl ⟨by kernel_rfl, ?_⟩) hS ?_
              rotate_left
              · intro V hV
                go_simp
                (try with_reducible rfl)
              simp only [put_list, List.set_cons_succ, List.set_cons_zero]
              refine wpAnyH_takeL (i := 7) (v := ?_) rfl (by kernel_rfl) (by kernel_rfl) (by kernel_rfl) (fun _ _ _ h => h) (Or.inl ⟨by kernel_rfl, ?_⟩) hS ?_
              rotate_left
              · intro V hV
                go_simp
                (try with_reducible rfl)
              simp only [put_list, List.set_cons_succ, List.set_cons_zero]
              refine wpAnyH_ready (rs := [8]) (by kernel_rfl) (by simp) (AllReadyH.cons rfl (fun K hK => ?_) AllReadyH.nil)
              go_simp
              refine (HST.out _).mono ?_
              rintro e U1 ⟨rfl, hbc⟩
              refine hK.out _ _ (hS.trans (hbc.mono hS.size)) (fun hS => ?_)
              clear hK K hbc
              refine wpAnyH_takeL (i := 9) (v := ?_) rfl (by kernel_rfl) (by kernel_rfl) (by kernel_rfl) (fun _ _ _ h => h) (Or.inl ⟨by kernel_rfl, ?_⟩) hS ?_
              rotate_left
              · intro V hV
                go_simp
                (try with_reducible rfl)
              simp only [put_list, List.set_cons_succ, List.set_cons_zero]
              refine wpAnyH_takeL (i := 10) (v := ?_) rfl (by kernel_rfl) (by kernel_rfl) (by kernel_rfl) (fun _ _ _ h => h) (Or.inl ⟨by kernel_rfl, ?_⟩) hS ?_
              rotate_left
              · intro V hV
                go_simp
                (try with_reducible rfl)
              simp only [put_list, List.set_cons_succ, List.set_cons_zero]
              refine wpAnyH_takeL (i := 11) (v := ?_) rfl (by kernel_rfl) (by kernel_rfl) (by kernel_rfl) (fun _ _ _ h => h) (Or.inl ⟨by kernel_rfl, ?_⟩) hS ?_
              rotate_left
              · intro V hV
                go_simp
                (try with_reducible rfl)
              simp only [put_list, List.set_cons_succ, List.set_cons_zero]
              refine wpAnyH_ready (rs := [12]) (by kernel_rfl) (by simp) (AllReadyH.cons rfl (fun K hK => ?_) AllReadyH.nil)
              go_simp
              refine hK.out _ _ hS (fun hS => ?_)
              clear hK K
              refine wpAnyH_ready (rs := [13]) (by kernel_rfl) (by simp) (AllReadyH.cons rfl (fun K hK => ?_) AllReadyH.nil)
              go_simp
              refine hK.out _ _ hS (fun hS => ?_)
              clear hK K
              refine wpAnyH_done (by kernel_rfl) ?_ _
              replace HBW := hideP (HBW.out.trans (hS.mono HBW.out.size))
              replace HBf := hideP ((hS.block _ (lt_of_block HBf.out)).trans HBf.out)
              replace HBx := hideP ((hS.block _ (lt_of_block HBx.out)).trans HBx.out)
              replace d0 := (hS.cell (p := ad.add (k * 4)) l0).trans d0
              replace d1 := (hS.cell (p := ⟨(ad.add (k * 4)).block, (ad.add (k * 4)).off + 1, none⟩) l1).trans d1
              replace d2 := (hS.cell (p := ⟨(ad.add (k * 4)).block, (ad.add (k * 4)).off + 2, none⟩) l2).trans d2
              replace d3 := (hS.cell (p := ⟨(ad.add (k * 4)).block, (ad.add (k * 4)).off + 3, none⟩) l3).trans d3
              replace HV := hideP (HV.out.moved hS)
              clear hS l0 l1 l2 l3
              clear cf0 cf1 cf2 cf3 hlf
              clear cx0 cx1 cx2 cx3 hlx
              obtain ⟨cf0, cf1, cf2, cf3⟩ := cells4 HBf.out
              have hlf := lt_of_block HBf.out
              obtain ⟨cx0, cx1, cx2, cx3⟩ := cells4 HBx.out
              have hlx := lt_of_block HBx.out
              have l0 := World.block_lt_of_cell? U1 _ d0
              have l1 := World.block_lt_of_cell? U1 _ d1
              have l2 := World.block_lt_of_cell? U1 _ d2
              have l3 := World.block_lt_of_cell? U1 _ d3
              go_wp2_with fail
              refine wp_region_heldS (S := fun V => Below U1.heap.size U1 V) (by kernel_rfl) (Below.refl _ _).drew (fun hS => ?_)
              refine wpAnyH_takeL (i := 0) (v := ?_) rfl (by kernel_rfl) (by kernel_rfl) (by kernel_rfl) (fun _ _ _ h => h) (Or.inl ⟨by kernel_rfl, ?_⟩) hS ?_
              rotate_left
              · intro V hV
                have k0 := (hV.cell (p := ⟨B, 0, none⟩) hlx).trans cx0
                have k1 := (hV.cell (p := ⟨B, 1, none⟩) hlx).trans cx1
                have k2 := (hV.cell (p := ⟨B, 2, none⟩) hlx).trans cx2
                have k3 := (hV.cell (p := ⟨B, 3, none⟩) hlx).trans cx3
                go_simp
                (try with_reducible rfl)
              simp only [put_list, List.set_cons_succ, List.set_cons_zero]
              refine wpAnyH_takeL (i := 1) (v := ?_) rfl (by kernel_rfl) (by kernel_rfl) (by kernel_rfl) (fun _ _ _ h => h) (Or.inl ⟨by kernel_rfl, ?_⟩) hS ?_
              rotate_left
              · intro V hV
                have k0 := (hV.cell (p := ⟨w.heap.size, 0, none⟩) hlf).trans cf0
                have k1 := (hV.cell (p := ⟨w.heap.size, 1, none⟩) hlf).trans cf1
                have k2 := (hV.cell (p := ⟨w.heap.size, 2, none⟩) hlf).trans cf2
                have k3 := (hV.cell (p := ⟨w.heap.size, 3, none⟩) hlf).trans cf3
                go_simp
                (try with_reducible rfl)
              simp only [put_list, List.set_cons_succ, List.set_cons_zero]
              refine wpAnyH_takeL (i := 2) (v := ?_) rfl (by kernel_rfl) (by kernel_rfl) (by kernel_rfl) (fun _ _ _ h => h) (Or.inl ⟨by kernel_rfl, ?_⟩) hS ?_
              rotate_left
              · intro V hV
                go_simp
                (try with_reducible rfl)
              simp only [put_list, List.set_cons_succ, List.set_cons_zero]
              refine wpAnyH_takeL (i := 3) (v := ?_) rfl (by kernel_rfl) (by kernel_rfl) (by kernel_rfl) (fun _ _ _ h => h) (Or.inl ⟨by kernel_rfl, ?_⟩) hS ?_
              rotate_left
              · intro V hV
                go_simp
                (try with_reducible rfl)
              simp only [put_list, List.set_cons_succ, List.set_cons_zero]
              refine wpAnyH_takeL (i := 4) (v := ?_) rfl (by kernel_rfl) (by kernel_rfl) (by kernel_rfl) (fun _ _ _ h => h) (Or.inl ⟨by kernel_rfl, ?_⟩) hS ?_
              rotate_left
              · intro V hV
                go_simp
                (try with_reducible rfl)
              simp only [put_list, List.set_cons_succ, List.set_cons_zero]
              refine wpAnyH_takeL (i := 5) (v := ?_) rfl (by kernel_rfl) (by kernel_rfl) (by kernel_rfl) (fun _ _ _ h => h) (Or.inl ⟨by kernel_rfl, ?_⟩) hS ?_
              rotate_left
              · intro V hV
                go_simp
                (try with_reducible rfl)
              simp only [put_list, List.set_cons_succ, List.set_cons_zero]
              refine wpAnyH_takeL (i := 6) (v := ?_) rfl (by kernel_rfl) (by kernel_rfl) (by kernel_rfl) (fun _ _ _ h => h) (Or.inl ⟨by kernel_rfl, ?_⟩) hS ?_
              rotate_left
              · intro V hV
                go_simp
                (try with_reducible rfl)
              simp only [put_list, List.set_cons_succ, List.set_cons_zero]
              refine wpAnyH_takeL (i := 7) (v := ?_) rfl (by kernel_rfl) (by kernel_rfl) (by kernel_rfl) (fun _ _ _ h => h) (Or.inl ⟨by kernel_rfl, ?_⟩) hS ?_
              rotate_left
              · intro V hV
                have e0 := (hV.cell (p := ad.add (k * 4)) l0).trans d0
                have e1 := (hV.cell (p := ⟨(ad.add (k * 4)).block, (ad.add (k * 4)).off + 1, none⟩) l1).trans d1
                have e2 := (hV.cell (p := ⟨(ad.add (k * 4)).block, (ad.add (k * 4)).off + 2, none⟩) l2).trans d2
                have e3 := (hV.cell (p := ⟨(ad.add (k * 4)).block, (ad.add (k * 4)).off + 3, none⟩) l3).trans d3
                go_simp
                (try with_reducible rfl)
              simp only [put_list, List.set_cons_succ, List.set_cons_zero]
              refine wpAnyH_takeL (i := 8) (v := ?_) rfl (by kernel_rfl) (by kernel_rfl) (by kernel_rfl) (fun _ _ _ h => h) (Or.inl ⟨by kernel_rfl, ?_⟩) hS ?_
              rotate_left
              · intro V hV
                have k0 := (hV.cell (p := ⟨B, 0, none⟩) hlx).trans cx0
                have k1 := (hV.cell (p := ⟨B, 1, none⟩) hlx).trans cx1
                have k2 := (hV.cell (p := ⟨B, 2, none⟩) hlx).trans cx2
                have k3 := (hV.cell (p := ⟨B, 3, none⟩) hlx).trans cx3
                go_simp
                (try with_reducible rfl)
              simp only [put_list, List.set_cons_succ, List.set_cons_zero]
              refine wpAnyH_takeL (i := 9) (v := ?_) rfl (by kernel_rfl) (by kernel_rfl) (by kernel_rfl) (fun _ _ _ h => h) (Or.inl ⟨by kernel_rfl, ?_⟩) hS ?_
              rotate_left
              · intro V hV
                go_simp
                (try with_reducible rfl)
              simp only [put_list, List.set_cons_succ, List.set_cons_zero]
              refine wpAnyH_takeL (i := 10) (v := ?_) rfl (by kernel_rfl) (by kernel_rfl) (by kernel_rfl) (fun _ _ _ h => h) (Or.inl ⟨by kernel_rfl, ?_⟩) hS ?_
              rotate_left
              · intro V hV
                go_simp
                (try with_reducible rfl)
              simp only [put_list, List.set_cons_succ, List.set_cons_zero]
              refine wpAnyH_ready (rs := [11]) (by kernel_rfl) (by simp) (AllReadyH.cons rfl (fun K hK => ?_) AllReadyH.nil)
              go_simp
              refine hK.out _ _ hS (fun hS => ?_)
              clear hK K
              refine wpAnyH_done (by kernel_rfl) ?_ _
              replace HBW := hideP (HBW.out.trans (hS.mono HBW.out.size))
              replace HBf := hideP ((hS.block _ (lt_of_block HBf.out)).trans HBf.out)
              replace HBx := hideP ((hS.block _ (lt_of_block HBx.out)).trans HBx.out)
              replace d0 := (hS.cell (p := ad.add (k * 4)) l0).trans d0
              replace d1 := (hS.cell (p := ⟨(ad.add (k * 4)).block, (ad.add (k * 4)).off + 1, none⟩) l1).trans d1
              replace d2 := (hS.cell (p := ⟨(ad.add (k * 4)).block, (ad.add (k * 4)).off + 2, none⟩) l2).trans d2
              replace d3 := (hS.cell (p := ⟨(ad.add (k * 4)).block, (ad.add (k * 4)).off + 3, none⟩) l3).trans d3
              replace HV := hideP (HV.out.moved hS)
              clear hS l0 l1 l2 l3
              clear cf0 cf1 cf2 cf3 hlf
              clear cx0 cx1 cx2 cx3 hlx
              generalize U1.drew = W9 at *
              obtain ⟨cx0, cx1, cx2, cx3⟩ := cells4 HBx.out
              have xf : ∀ i, W9.frozen? ⟨B, i, none⟩ = false := fun i => blk_free HBx.out
              have HE : ∀ V, V = (((W9.setCell ⟨B, 0, none⟩ (.int .u64 y0)).setCell ⟨B, 1, none⟩ (.int .u64 y1)).setCell ⟨B, 2, none⟩ (.int .u64 y2)).setCell ⟨B, 3, none⟩ (.int .u64 y3) →
                  V.heap[w.heap.size]? = some (.cells #[.int .u64 f0, .int .u64 f1, .int .u64 f2, .int .u64 f3] 30 (0, 0)) ∧ V.heap[B]? = some (.cells #[.int .u64 y0, .int .u64 y1, .int .u64 y2, .int .u64 y3] 30 (0, 0)) ∧ Below w.heap.size w V := by
                have hB := HBB.out
                rintro V rfl
                refine ⟨?_, ?_, ?_⟩
                · repeat first | exact HBf.out | (refine (Below.heap_setCell _ _ _ _ (by dsimp only; omega)).trans ?_)
                · exact blk_set (blk_set (blk_set (blk_set HBx.out _) _) _) _
                · repeat first | exact HBW.out | (refine Below.setCell ?_ (by dsimp only <;> omega) _)
              replace HE := hideP HE
              clear HBx HBf HBW HV
              go_wp2_with fail
              obtain ⟨n1, n2, n3, n4, n5, n6, nY⟩ := HNX.out
              obtain ⟨h1, h2, h3⟩ := HE.out _ rfl
              exact ⟨⟨k + 1, f k, sm + bk, by omega, by omega, rfl, rfl, h1, ⟨y0, y1, y2, y3, nY, h2⟩, n1, by omega, HV0.out.moved h3, h3⟩, by simp [intOf]; omega⟩
            · have hoff := And.intro (Decidable.not_not.1 hfar) hnx
              obtain ⟨x0, x1, x2, x3, hX, HBx⟩ := HX.out
              obtain ⟨ad, hao, y0, y1, y2, y3, hY, d0, d1, d2, d3⟩ := HV.out.cell k hlt
              subst hao
              have d1 : wr.cell? ⟨(ad.add (k * 4)).block, (ad.add (k * 4)).off + 1, none⟩ = some (.int .u64 y1) := d1
              have d2 : wr.cell? ⟨(ad.add (k * 4)).block, (ad.add (k * 4)).off + 2, none⟩ = some (.int .u64 y2) := d2
              have d3 : wr.cell? ⟨(ad.add (k * 4)).block, (ad.add (k * 4)).off + 3, none⟩ = some (.int .u64 y3) := d3
              have hst := fun W => store_any F X (f k) true W
              have hstep := store_step (next := f k % M256) (warm := true) HO.out
              rw [HF.out, hX, hY] at hst
              have q1 := fun W => eq_run X F (b := true) (by simp [hoff.1]) hX HF.out W
              have q2 := fun W => eq_run (f k) X (b := false) (by simp [hoff.2]) hY hX W
              generalize storeN (F % M256) (X % M256) (f k % M256) true = st at *
              obtain ⟨ct, bk⟩ := st
              obtain ⟨hs1, hs2, hs3, hs4, hs5⟩ := hstep
              dsimp only at hst hs1 hs2 hs3 hs4 hs5
              have hs0 := hs1.1
              have t0 : IntKind.i64.wrap (sm + bk) = sm + bk := by rw [IntKind.wrap_i64]; omega
              have t1 : ¬ sm + bk < 0 := by omega
              have t2 : ¬ (ct : Int) < 2900 := by have := hs5 ⟨hoff.1, hoff.2⟩; omega
              have g0 : 0 < k := by omega
              have g1 : (k : Int) < (n : Int) := by omega
              have g2 : (k : Int) < 1000 := by omega
              have t5 : IntKind.i64.wrap ((k : Int) + 1) = (k : Int) + 1 := by rw [IntKind.wrap_i64]; omega
              have HST := hideP hst
              have HNX := hideP (And.intro hs1 (And.intro hs2 (And.intro hk1 (And.intro h1000 (And.intro hlt (And.intro hsm hY))))))
              replace HBx := hideP HBx
              clear hst hs0 hs1 hs2 hs3 hs4 hs5 HO HX hX hY hsm hlt h1000 hk1 hoff hk0
              have l0 := World.block_lt_of_cell? wr _ d0
              have l1 := World.block_lt_of_cell? wr _ d1
              have l2 := World.block_lt_of_cell? wr _ d2
              have l3 := World.block_lt_of_cell? wr _ d3
              go_wp2_with fail
              obtain ⟨cf0, cf1, cf2, cf3⟩ := cells4 HBf.out
              have hlf := lt_of_block HBf.out
              obtain ⟨cx0, cx1, cx2, cx3⟩ := cells4 HBx.out
              have hlx := lt_of_block HBx.out
              refine wp_region_heldS (S := fun V => Below wr.heap.size wr V) (by kernel_rfl) (Below.refl _ _).drew (fun hS => ?_)
              refine wpAnyH_takeL (i := 0) (v := ?_) rfl (by kernel_rfl) (by kernel_rfl) (by kernel_rfl) (fun _ _ _ h => h) (Or.inl ⟨by kernel_rfl, ?_⟩) hS ?_
              rotate_left
              · intro V hV
                have k0 := (hV.cell (p := ⟨w.heap.size, 0, none⟩) hlf).trans cf0
                have k1 := (hV.cell (p := ⟨w.heap.size, 1, none⟩) hlf).trans cf1
                have k2 := (hV.cell (p := ⟨w.heap.size, 2, none⟩) hlf).trans cf2
                have k3 := (hV.cell (p := ⟨w.heap.size, 3, none⟩) hlf).trans cf3
                go_simp
                (try with_reducible rfl)
              simp only [put_list, List.set_cons_succ, List.set_cons_zero]
              refine wpAnyH_takeL (i := 1) (v := ?_) rfl (by kernel_rfl) (by kernel_rfl) (by kernel_rfl) (fun _ _ _ h => h) (Or.inl ⟨by kernel_rfl, ?_⟩) hS ?_
              rotate_left
              · intro V hV
                have k0 := (hV.cell (p := ⟨B, 0, none⟩) hlx).trans cx0
                have k1 := (hV.cell (p := ⟨B, 1, none⟩) hlx).trans cx1
                have k2 := (hV.cell (p := ⟨B, 2, none⟩) hlx).trans cx2
                have k3 := (hV.cell (p := ⟨B, 3, none⟩) hlx).trans cx3
                go_simp
                (try with_reducible rfl)
              simp only [put_list, List.set_cons_succ, List.set_cons_zero]
              refine wpAnyH_takeL (i := 2) (v := ?_) rfl (by kernel_rfl) (by kernel_rfl) (by kernel_rfl) (fun _ _ _ h => h) (Or.inl ⟨by kernel_rfl, ?_⟩) hS ?_
              rotate_left
              · intro V hV
                go_simp
                (try with_reducible rfl)
              simp only [put_list, List.set_cons_succ, List.set_cons_zero]
              refine wpAnyH_takeL (i := 3) (v := ?_) rfl (by kernel_rfl) (by kernel_rfl) (by kernel_rfl) (fun _ _ _ h => h) (Or.inl ⟨by kernel_rfl, ?_⟩) hS ?_
              rotate_left
              · intro V hV
                go_simp
                (try with_reducible rfl)
              simp only [put_list, List.set_cons_succ, List.set_cons_zero]
              refine wpAnyH_takeL (i := 4) (v := ?_) rfl (by kernel_rfl) (by kernel_rfl) (by kernel_rfl) (fun _ _ _ h => h) (Or.inl ⟨by kernel_rfl, ?_⟩) hS ?_
              rotate_left
              · intro V hV
                go_simp
                (try with_reducible rfl)
              simp only [put_list, List.set_cons_succ, List.set_cons_zero]
              refine wpAnyH_takeL (i := 5) (v := ?_) rfl (by kernel_rfl) (by kernel_rfl) (by kernel_rfl) (fun _ _ _ h => h) (Or.inl ⟨by kernel_rfl, ?_⟩) hS ?_
              rotate_left
              · intro V hV
                have e0 := (hV.cell (p := ad.add (k * 4)) l0).trans d0
                have e1 := (hV.cell (p := ⟨(ad.add (k * 4)).block, (ad.add (k * 4)).off + 1, none⟩) l1).trans d1
                have e2 := (hV.cell (p := ⟨(ad.add (k * 4)).block, (ad.add (k * 4)).off + 2, none⟩) l2).trans d2
                have e3 := (hV.cell (p := ⟨(ad.add (k * 4)).block, (ad.add (k * 4)).off + 3, none⟩) l3).trans d3
                go_simp
                (try with_reducible rfl)
              simp only [put_list, List.set_cons_succ, List.set_cons_zero]
              refine wpAnyH_takeL (i := 6) (v := ?_) rfl (by kernel_rfl) (by kernel_rfl) (by kernel_rfl) (fun _ _ _ h => h) (Or.inl ⟨by kernel_rfl, ?_⟩) hS ?_
              rotate_left
              · intro V hV
                go_simp
                (try with_reducible rfl)
              simp only [put_list, List.set_cons_succ, List.set_cons_zero]
              refine wpAnyH_takeL (i := 7) (v := ?_) rfl (by kernel_rfl) (by kernel_rfl) (by kernel_rfl) (fun _ _ _ h => h) (Or.inl ⟨by kernel_rfl, ?_⟩) hS ?_
              rotate_left
              · intro V hV
                go_simp
                (try with_reducible rfl)
              simp only [put_list, List.set_cons_succ, List.set_cons_zero]
              refine wpAnyH_ready (rs := [8]) (by kernel_rfl) (by simp) (AllReadyH.cons rfl (fun K hK => ?_) AllReadyH.nil)
              go_simp
              refine (HST.out _).mono ?_
              rintro e U1 ⟨rfl, hbc⟩
              refine hK.out _ _ (hS.trans (hbc.mono hS.size)) (fun hS => ?_)
              clear hK K hbc
              refine wpAnyH_takeL (i := 9) (v := ?_) rfl (by kernel_rfl) (by kernel_rfl) (by kernel_rfl) (fun _ _ _ h => h) (Or.inl ⟨by kernel_rfl, ?_⟩) hS ?_
              rotate_left
              · intro V hV
                go_simp
                (try with_reducible rfl)
              simp only [put_list, List.set_cons_succ, List.set_cons_zero]
              refine wpAnyH_takeL (i := 10) (v := ?_) rfl (by kernel_rfl) (by kernel_rfl) (by kernel_rfl) (fun _ _ _ h => h) (Or.inl ⟨by kernel_rfl, ?_⟩) hS ?_
              rotate_left
              · intro V hV
                go_simp
                (try with_reducible rfl)
              simp only [put_list, List.set_cons_succ, List.set_cons_zero]
              refine wpAnyH_takeL (i := 11) (v := ?_) rfl (by kernel_rfl) (by kernel_rfl) (by kernel_rfl) (fun _ _ _ h => h) (Or.inl ⟨by kernel_rfl, ?_⟩) hS ?_
              rotate_left
              · intro V hV
                go_simp
                (try with_reducible rfl)
              simp only [put_list, List.set_cons_succ, List.set_cons_zero]
              refine wpAnyH_ready (rs := [12]) (by kernel_rfl) (by simp) (AllReadyH.cons rfl (fun K hK => ?_) AllReadyH.nil)
              go_simp
              refine hK.out _ _ hS (fun hS => ?_)
              clear hK K
              refine wpAnyH_ready (rs := [13]) (by kernel_rfl) (by simp) (AllReadyH.cons rfl (fun K hK => ?_) AllReadyH.nil)
              go_simp
              refine hK.out _ _ hS (fun hS => ?_)
              clear hK K
              refine wpAnyH_done (by kernel_rfl) ?_ _
              replace HBW := hideP (HBW.out.trans (hS.mono HBW.out.size))
              replace HBf := hideP ((hS.block _ (lt_of_block HBf.out)).trans HBf.out)
              replace HBx := hideP ((hS.block _ (lt_of_block HBx.out)).trans HBx.out)
              replace d0 := (hS.cell (p := ad.add (k * 4)) l0).trans d0
              replace d1 := (hS.cell (p := ⟨(ad.add (k * 4)).block, (ad.add (k * 4)).off + 1, none⟩) l1).trans d1
              replace d2 := (hS.cell (p := ⟨(ad.add (k * 4)).block, (ad.add (k * 4)).off + 2, none⟩) l2).trans d2
              replace d3 := (hS.cell (p := ⟨(ad.add (k * 4)).block, (ad.add (k * 4)).off + 3, none⟩) l3).trans d3
              replace HV := hideP (HV.out.moved hS)
              clear hS l0 l1 l2 l3
              clear cf0 cf1 cf2 cf3 hlf
              clear cx0 cx1 cx2 cx3 hlx
              obtain ⟨cf0, cf1, cf2, cf3⟩ := cells4 HBf.out
              have hlf := lt_of_block HBf.out
              obtain ⟨cx0, cx1, cx2, cx3⟩ := cells4 HBx.out
              have hlx := lt_of_block HBx.out
              have l0 := World.block_lt_of_cell? U1 _ d0
              have l1 := World.block_lt_of_cell? U1 _ d1
              have l2 := World.block_lt_of_cell? U1 _ d2
              have l3 := World.block_lt_of_cell? U1 _ d3
              go_wp2_with fail
              refine wp_region_heldS (S := fun V => Below U1.heap.size U1 V) (by kernel_rfl) (Below.refl _ _).drew (fun hS => ?_)
              refine wpAnyH_takeL (i := 0) (v := ?_) rfl (by kernel_rfl) (by kernel_rfl) (by kernel_rfl) (fun _ _ _ h => h) (Or.inl ⟨by kernel_rfl, ?_⟩) hS ?_
              rotate_left
              · intro V hV
                have k0 := (hV.cell (p := ⟨B, 0, none⟩) hlx).trans cx0
                have k1 := (hV.cell (p := ⟨B, 1, none⟩) hlx).trans cx1
                have k2 := (hV.cell (p := ⟨B, 2, none⟩) hlx).trans cx2
                have k3 := (hV.cell (p := ⟨B, 3, none⟩) hlx).trans cx3
                go_simp
                (try with_reducible rfl)
              simp only [put_list, List.set_cons_succ, List.set_cons_zero]
              refine wpAnyH_takeL (i := 1) (v := ?_) rfl (by kernel_rfl) (by kernel_rfl) (by kernel_rfl) (fun _ _ _ h => h) (Or.inl ⟨by kernel_rfl, ?_⟩) hS ?_
              rotate_left
              · intro V hV
                have k0 := (hV.cell (p := ⟨w.heap.size, 0, none⟩) hlf).trans cf0
                have k1 := (hV.cell (p := ⟨w.heap.size, 1, none⟩) hlf).trans cf1
                have k2 := (hV.cell (p := ⟨w.heap.size, 2, none⟩) hlf).trans cf2
                have k3 := (hV.cell (p := ⟨w.heap.size, 3, none⟩) hlf).trans cf3
                go_simp
                (try with_reducible rfl)
              simp only [put_list, List.set_cons_succ, List.set_cons_zero]
              refine wpAnyH_takeL (i := 2) (v := ?_) rfl (by kernel_rfl) (by kernel_rfl) (by kernel_rfl) (fun _ _ _ h => h) (Or.inl ⟨by kernel_rfl, ?_⟩) hS ?_
              rotate_left
              · intro V hV
                go_simp
                (try with_reducible rfl)
              simp only [put_list, List.set_cons_succ, List.set_cons_zero]
              refine wpAnyH_takeL (i := 3) (v := ?_) rfl (by kernel_rfl) (by kernel_rfl) (by kernel_rfl) (fun _ _ _ h => h) (Or.inl ⟨by kernel_rfl, ?_⟩) hS ?_
              rotate_left
              · intro V hV
                go_simp
                (try with_reducible rfl)
              simp only [put_list, List.set_cons_succ, List.set_cons_zero]
              refine wpAnyH_takeL (i := 4) (v := ?_) rfl (by kernel_rfl) (by kernel_rfl) (by kernel_rfl) (fun _ _ _ h => h) (Or.inl ⟨by kernel_rfl, ?_⟩) hS ?_
              rotate_left
              · intro V hV
                go_simp
                (try with_reducible rfl)
              simp only [put_list, List.set_cons_succ, List.set_cons_zero]
              refine wpAnyH_takeL (i := 5) (v := ?_) rfl (by kernel_rfl) (by kernel_rfl) (by kernel_rfl) (fun _ _ _ h => h) (Or.inl ⟨by kernel_rfl, ?_⟩) hS ?_
              rotate_left
              · intro V hV
                go_simp
                (try with_reducible rfl)
              simp only [put_list, List.set_cons_succ, List.set_cons_zero]
              refine wpAnyH_takeL (i := 6) (v := ?_) rfl (by kernel_rfl) (by kernel_rfl) (by kernel_rfl) (fun _ _ _ h => h) (Or.inl ⟨by kernel_rfl, ?_⟩) hS ?_
              rotate_left
              · intro V hV
                go_simp
                (try with_reducible rfl)
              simp only [put_list, List.set_cons_succ, List.set_cons_zero]
              refine wpAnyH_takeL (i := 7) (v := ?_) rfl (by kernel_rfl) (by kernel_rfl) (by kernel_rfl) (fun _ _ _ h => h) (Or.inl ⟨by kernel_rfl, ?_⟩) hS ?_
              rotate_left
              · intro V hV
                have e0 := (hV.cell (p := ad.add (k * 4)) l0).trans d0
                have e1 := (hV.cell (p := ⟨(ad.add (k * 4)).block, (ad.add (k * 4)).off + 1, none⟩) l1).trans d1
                have e2 := (hV.cell (p := ⟨(ad.add (k * 4)).block, (ad.add (k * 4)).off + 2, none⟩) l2).trans d2
                have e3 := (hV.cell (p := ⟨(ad.add (k * 4)).block, (ad.add (k * 4)).off + 3, none⟩) l3).trans d3
                go_simp
                (try with_reducible rfl)
              simp only [put_list, List.set_cons_succ, List.set_cons_zero]
              refine wpAnyH_takeL (i := 8) (v := ?_) rfl (by kernel_rfl) (by kernel_rfl) (by kernel_rfl) (fun _ _ _ h => h) (Or.inl ⟨by kernel_rfl, ?_⟩) hS ?_
              rotate_left
              · intro V hV
                have k0 := (hV.cell (p := ⟨B, 0, none⟩) hlx).trans cx0
                have k1 := (hV.cell (p := ⟨B, 1, none⟩) hlx).trans cx1
                have k2 := (hV.cell (p := ⟨B, 2, none⟩) hlx).trans cx2
                have k3 := (hV.cell (p := ⟨B, 3, none⟩) hlx).trans cx3
                go_simp
                (try with_reducible rfl)
              simp only [put_list, List.set_cons_succ, List.set_cons_zero]
              refine wpAnyH_takeL (i := 9) (v := ?_) rfl (by kernel_rfl) (by kernel_rfl) (by kernel_rfl) (fun _ _ _ h => h) (Or.inl ⟨by kernel_rfl, ?_⟩) hS ?_
              rotate_left
              · intro V hV
                go_simp
                (try with_reducible rfl)
              simp only [put_list, List.set_cons_succ, List.set_cons_zero]
              refine wpAnyH_takeL (i := 10) (v := ?_) rfl (by kernel_rfl) (by kernel_rfl) (by kernel_rfl) (fun _ _ _ h => h) (Or.inl ⟨by kernel_rfl, ?_⟩) hS ?_
              rotate_left
              · intro V hV
                go_simp
                (try with_reducible rfl)
              simp only [put_list, List.set_cons_succ, List.set_cons_zero]
              refine wpAnyH_ready (rs := [11]) (by kernel_rfl) (by simp) (AllReadyH.cons rfl (fun K hK => ?_) AllReadyH.nil)
              go_simp
              refine hK.out _ _ hS (fun hS => ?_)
              clear hK K
              refine wpAnyH_done (by kernel_rfl) ?_ _
              replace HBW := hideP (HBW.out.trans (hS.mono HBW.out.size))
              replace HBf := hideP ((hS.block _ (lt_of_block HBf.out)).trans HBf.out)
              replace HBx := hideP ((hS.block _ (lt_of_block HBx.out)).trans HBx.out)
              replace d0 := (hS.cell (p := ad.add (k * 4)) l0).trans d0
              replace d1 := (hS.cell (p := ⟨(ad.add (k * 4)).block, (ad.add (k * 4)).off + 1, none⟩) l1).trans d1
              replace d2 := (hS.cell (p := ⟨(ad.add (k * 4)).block, (ad.add (k * 4)).off + 2, none⟩) l2).trans d2
              replace d3 := (hS.cell (p := ⟨(ad.add (k * 4)).block, (ad.add (k * 4)).off + 3, none⟩) l3).trans d3
              replace HV := hideP (HV.out.moved hS)
              clear hS l0 l1 l2 l3
              clear cf0 cf1 cf2 cf3 hlf
              clear cx0 cx1 cx2 cx3 hlx
              generalize U1.drew = W9 at *
              obtain ⟨cx0, cx1, cx2, cx3⟩ := cells4 HBx.out
              have xf : ∀ i, W9.frozen? ⟨B, i, none⟩ = false := fun i => blk_free HBx.out
              have HE : ∀ V, V = (((W9.setCell ⟨B, 0, none⟩ (.int .u64 y0)).setCell ⟨B, 1, none⟩ (.int .u64 y1)).setCell ⟨B, 2, none⟩ (.int .u64 y2)).setCell ⟨B, 3, none⟩ (.int .u64 y3) →
                  V.heap[w.heap.size]? = some (.cells #[.int .u64 f0, .int .u64 f1, .int .u64 f2, .int .u64 f3] 30 (0, 0)) ∧ V.heap[B]? = some (.cells #[.int .u64 y0, .int .u64 y1, .int .u64 y2, .int .u64 y3] 30 (0, 0)) ∧ Below w.heap.size w V := by
                have hB := HBB.out
                rintro V rfl
                refine ⟨?_, ?_, ?_⟩
                · repeat first | exact HBf.out | (refine (Below.heap_setCell _ _ _ _ (by dsimp only; omega)).trans ?_)
                · exact blk_set (blk_set (blk_set (blk_set HBx.out _) _) _) _
                · repeat first | exact HBW.out | (refine Below.setCell ?_ (by dsimp only <;> omega) _)
              replace HE := hideP HE
              clear HBx HBf HBW HV
              go_wp2_with fail
              obtain ⟨n1, n2, n3, n4, n5, n6, nY⟩ := HNX.out
              obtain ⟨h1, h2, h3⟩ := HE.out _ rfl
              exact ⟨⟨k + 1, f k, sm + bk, by omega, by omega, rfl, rfl, h1, ⟨y0, y1, y2, y3, nY, h2⟩, n1, by omega, HV0.out.moved h3, h3⟩, by simp [intOf]; omega⟩
      · have g1 : (k : Int) < (n : Int) := by omega
        have g2 : ¬ (k : Int) < 1000 := by omega
        clear HBf HX HO hsm HV HV0 hlt h1000 hk1 hk2 hn
        go_wp2_with fail
        refine HK.out _ _ ?_
        go_wp2_with fail
        go_ret
        exact ⟨rfl, HBW.out⟩
    · have g1 : ¬ (k : Int) < (n : Int) := by omega
      clear HBf HX HO hsm HV HV0 hlt hk1 hk2 hn
      go_wp2_with fail
      refine HK.out _ _ ?_
      go_wp2_with fail
      go_ret
      exact ⟨rfl, HBW.out⟩

end Go.Proofs.YtaeadndihchbnaaDoor
