/-
  A sign extended.
-/
import Derived.Test.YtpnijncoldihfaaPowersC30
namespace Go.Proofs.Ytpnijncoldihfaa
open Go.RowKit Go.Shelf

/-- The lowest 8 (k + 1) bits, as a signed number. -/
def signN (k X : Nat) : Nat := if k < 31 then sarN (256 - 8 * (k + 1)) (shlN (256 - 8 * (k + 1)) X) else X

set_option maxHeartbeats 2000000 in
set_option maxRecDepth 100000 in
theorem signExtend_any (N X : Nat) (w : World) : Calls Try.prog 47 #[wv N, wv X] w fun e w' => e = .returned (wv (signN (N % M256) X)) ∧ Below w.heap.size w w' := by
  obtain ⟨k0, k1, k2, k3, hk⟩ := wv_form N
  obtain ⟨x0, x1, x2, x3, hx⟩ := wv_form X
  unfold signN
  by_cases hn : N % M256 < 31
  · rw [if_pos hn]
    have c1 := fun W => within_in N 31 (by omega) hn W
    generalize N % M256 = n at hn c1 ⊢
    obtain ⟨u, hu⟩ : ∃ u : Nat, u = 256 - 8 * (n + 1) := ⟨_, rfl⟩
    rw [← hu]
    have hu256 : u < 256 := by omega
    have c2 := fun W => of_any u (by omega) W
    have c3 := fun W => shl_any u X W
    have c4 := fun W => sar_any u (shlN u X) W
    rw [small_mod (by omega : u < 18446744073709551616)] at c3 c4
    obtain ⟨u0, u1, u2, u3, hU⟩ := wv_form u
    obtain ⟨a0, a1, a2, a3, ha⟩ := wv_form (shlN u X)
    obtain ⟨s0, s1, s2, s3, hs⟩ := wv_form (sarN u (shlN u X))
    simp only [hk, hx, hU, ha, hs] at c1 c2 c3 c4 ⊢
    have hw : IntKind.u64.wrap (256 - 8 * ((n : Int) + 1)) = (u : Int) := by rw [IntKind.wrap_u64]; omega
    have hn' : (n : Int) < 31 := by omega
    have C1 := hideP c1
    have C2 := hideP c2
    have C3 := hideP c3
    have C4 := hideP c4
    clear c1 c2 c3 c4 hk hx hU ha hs hn hu hu256
    go_enter Try.func47, Try.ntmps47
    go_wp2_with fail
    refine (C1.out _).mono ?_
    rintro e V1 ⟨rfl, hb⟩
    have HBk : V1.heap[w.heap.size]? = some (.cells #[.int .u64 k0, .int .u64 k1, .int .u64 k2, .int .u64 k3] 24 (0, 0)) := (kept4 hb ((heap_old _ _ (by simp <;> omega)).trans ((heap_old _ _ (by simp)).trans (heap_new _ _)))).1
    have HBx : V1.heap[w.heap.size + 1]? = some (.cells #[.int .u64 x0, .int .u64 x1, .int .u64 x2, .int .u64 x3] 24 (0, 0)) := (kept4 hb ((heap_old _ _ (by simp)).trans (heap_new1 _ _ _))).1
    have HBr : V1.heap[w.heap.size + 1 + 1]? = some (.cells #[.int .u64 0, .int .u64 0, .int .u64 0, .int .u64 0] 24 (0, 0)) := (kept4 hb (heap_new2 _ _ _ _)).1
    have HBW : Hid (Below w.heap.size w V1) := ((((Below.refl _ w).alloc (Nat.le_refl _) _).alloc (by simp) _).alloc (by simp <;> omega) _).trans (hb.mono (by simp <;> omega))
    clear hb
    go_wp2_with fail
    refine (C2.out _).mono ?_
    rintro e V2 ⟨rfl, hb⟩
    replace HBx := (hb.block _ (lt_of_block HBx)).trans HBx
    replace HBr := (hb.block _ (lt_of_block HBr)).trans HBr
    replace HBW : Hid (Below w.heap.size w V2) := HBW.out.trans (hb.mono HBW.out.size)
    clear hb HBk
    go_wp2_with fail
    refine at_world (fun V3 hV3 => ?_)
    have HBu : V3.heap[V2.heap.size]? = some (.cells #[.int .u64 u0, .int .u64 u1, .int .u64 u2, .int .u64 u3] 24 (0, 0)) := by
      rw [hV3]
      exact heap_new _ _
    have hlr := lt_of_block HBr
    have hb : Below V2.heap.size V2 V3 := by
      rw [hV3]
      exact (Below.refl _ _).alloc (Nat.le_refl _) _
    replace HBx := (hb.block _ (lt_of_block HBx)).trans HBx
    replace HBr := (hb.block _ (lt_of_block HBr)).trans HBr
    replace HBW : Hid (Below w.heap.size w V3) := HBW.out.trans (hb.mono HBW.out.size)
    clear hb hV3
    refine wp_region_heldS (S := KeepR V3 (w.heap.size + 1 + 1)) (by kernel_rfl) (KeepR.init HBr) (fun hS => ?_)
    refine wpAnyH_takeL (i := 0) (v := ?_) rfl (by kernel_rfl) (by kernel_rfl) (by kernel_rfl) (fun _ _ _ h => h) (Or.inl ⟨by kernel_rfl, ?_⟩) hS ?_
    rotate_left
    · intro V hV
      obtain ⟨k0, k1, k2, k3⟩ := hV.cells HBu (by omega)
      go_simp
      (try with_reducible rfl)
    simp only [put_list, List.set_cons_succ, List.set_cons_zero]
    refine wpAnyH_takeL (i := 1) (v := ?_) rfl (by kernel_rfl) (by kernel_rfl) (by kernel_rfl) (fun _ _ _ h => h) (Or.inl ⟨by kernel_rfl, ?_⟩) hS ?_
    rotate_left
    · intro V hV
      obtain ⟨k0, k1, k2, k3⟩ := hV.cells HBu (by omega)
      go_simp
      (try with_reducible rfl)
    simp only [put_list, List.set_cons_succ, List.set_cons_zero]
    refine wpAnyH_takeL (i := 2) (v := ?_) rfl (by kernel_rfl) (by kernel_rfl) (by kernel_rfl) (fun _ _ _ h => h) (Or.inl ⟨by kernel_rfl, ?_⟩) hS ?_
    rotate_left
    · intro V hV
      obtain ⟨k0, k1, k2, k3⟩ := hV.cells HBx (by omega)
      go_simp
      (try with_reducible rfl)
    simp only [put_list, List.set_cons_succ, List.set_cons_zero]
    refine wpAnyH_ready (rs := [3]) (by kernel_rfl) (by simp) (AllReadyH.cons rfl (fun K hK => ?_) AllReadyH.nil)
    go_simp
    refine (C3.out _).mono ?_
    rintro e U1 ⟨rfl, hbc⟩
    refine hK.out _ _ (hS.call hbc) (fun hS => ?_)
    clear hK K hbc
    refine wpAnyH_ready (rs := [4]) (by kernel_rfl) (by simp) (AllReadyH.cons rfl (fun K hK => ?_) AllReadyH.nil)
    go_simp
    refine (C4.out _).mono ?_
    rintro e U2 ⟨rfl, hbc⟩
    refine hK.out _ _ (hS.call hbc) (fun hS => ?_)
    clear hK K hbc
    obtain ⟨r0, r1, r2, r3, j0, j1, j2, j3, jf⟩ := hS.room
    refine wpAnyH_ready (rs := [5]) (by kernel_rfl) (by simp) (AllReadyH.cons rfl (fun K hK => ?_) AllReadyH.nil)
    go_simp
    refine hK.out _ _ (hS.store _ _ _ _) (fun hS => ?_)
    clear hK K jf
    refine wpAnyH_done (by kernel_rfl) ?_ _
    go_wp2_with fail
    refine bodyPost_ret (v := .agg #[.int .u64 s0, .int .u64 s1, .int .u64 s2, .int .u64 s3]) (by simp [results, Try.results47, go_sem, World.cell?_setCell_same, j0, j1, j2, j3]) rfl ⟨rfl, ?_⟩
    exact HBW.out.trans (hS.below.mono (by omega))
  · rw [if_neg hn]
    have c1 := fun W => within_out N 31 (by omega) (by omega) W
    simp only [hk, hx] at c1 ⊢
    have C1 := hideP c1
    clear c1 hk hx hn
    go_enter Try.func47, Try.ntmps47
    go_wp2_with fail
    refine (C1.out _).mono ?_
    rintro e V1 ⟨rfl, hb⟩
    have HBk : V1.heap[w.heap.size]? = some (.cells #[.int .u64 k0, .int .u64 k1, .int .u64 k2, .int .u64 k3] 24 (0, 0)) := (kept4 hb ((heap_old _ _ (by simp <;> omega)).trans ((heap_old _ _ (by simp)).trans (heap_new _ _)))).1
    have HBx : V1.heap[w.heap.size + 1]? = some (.cells #[.int .u64 x0, .int .u64 x1, .int .u64 x2, .int .u64 x3] 24 (0, 0)) := (kept4 hb ((heap_old _ _ (by simp)).trans (heap_new1 _ _ _))).1
    have HBr : V1.heap[w.heap.size + 1 + 1]? = some (.cells #[.int .u64 0, .int .u64 0, .int .u64 0, .int .u64 0] 24 (0, 0)) := (kept4 hb (heap_new2 _ _ _ _)).1
    have HBW : Hid (Below w.heap.size w V1) := ((((Below.refl _ w).alloc (Nat.le_refl _) _).alloc (by simp) _).alloc (by simp <;> omega) _).trans (hb.mono (by simp <;> omega))
    clear hb
    obtain ⟨cx0, cx1, cx2, cx3⟩ := cells4 HBx
    obtain ⟨q0, q1, q2, q3⟩ := cells4 HBr
    have fr : ∀ o, V1.frozen? ⟨w.heap.size + 1 + 1, o, none⟩ = false := fun o => blk_free HBr
    clear HBk HBx HBr
    go_wp2
    refine bodyPost_ret (v := .agg #[.int .u64 x0, .int .u64 x1, .int .u64 x2, .int .u64 x3]) (by simp [results, Try.results47, go_sem, World.cell?_setCell_same, q0, q1, q2, q3]) rfl ⟨rfl, ?_⟩
    repeat first | exact HBW.out | apply Below.drew | (refine Below.setCell ?_ (by simp <;> omega) _)

end Go.Proofs.Ytpnijncoldihfaa
