/-
  The document: growing memory.
-/
import Derived.Test.YtaeadndihchbnaaDoorGasMemoryC15
namespace Go.Proofs.YtaeadndihchbnaaDoor
open Go.RowKit Go.Shelf

set_option maxHeartbeats 2000000 in
set_option maxRecDepth 100000 in
theorem positive_any (a b : Nat) (ha : a < 18446744073709551616) (hb : b < 18446744073709551616) (w : World) : Calls Tryd.prog 66 #[.int .u64 a, .int .u64 b] w fun e w' => e = .returned (.int .u64 (a - b : Nat)) ∧ w' = w := by
  by_cases h : a < b
  · have g : (a : Int) < (b : Int) := by omega
    rw [show a - b = 0 by omega]
    clear ha hb h
    go_enter Tryd.func66, Tryd.ntmps66
    go_wp2_with fail
    go_ret
    exact ⟨rfl, rfl⟩
  · have g : ¬ (a : Int) < (b : Int) := by omega
    have e1 : IntKind.u64.wrap ((a : Int) - (b : Int)) = ((a - b : Nat) : Int) := by rw [IntKind.wrap_u64]; omega
    generalize a - b = d at *
    clear ha hb h
    go_enter Tryd.func66, Tryd.ntmps66
    go_wp2_with fail
    go_ret
    exact ⟨rfl, rfl⟩

set_option maxHeartbeats 2000000 in
set_option maxRecDepth 100000 in
theorem rgrow_any (s A B : Nat) (hs : s < 18446744073709551616) (w : World) : Calls Tryd.prog 17 #[.int .u64 s, wv A, wv B] w fun e w' => e = .returned (.tuple #[.int .u64 (growT s (A % M256) (B % M256)).1, .int .u64 (growT s (A % M256) (B % M256)).2.1, .int .i64 (growT s (A % M256) (B % M256)).2.2]) ∧ Below w.heap.size w w' := by
  obtain ⟨a0, a1, a2, a3, hA⟩ := wv_form A
  obtain ⟨b0, b1, b2, b3, hB⟩ := wv_form B
  by_cases hz : B % M256 = 0
  · have hz1 := fun W => zero_any B W
    rw [show decide (B % M256 = 0) = true by simp [hz], hB] at hz1
    have HZ := hideP hz1
    rw [show growT s (A % M256) (B % M256) = (s, 0, 0) from if_pos hz, hA, hB]
    clear hz1 hA hB hz hs
    go_enter Tryd.func17, Tryd.ntmps17
    go_wp2_with fail
    refine at_world_q (fun W0 hW0 => ?_)
    obtain ⟨HBa, HBb, HBW⟩ := box2 hW0
    clear hW0
    replace HBW := hideP HBW
    replace HBa := hideP HBa
    replace HBb := hideP HBb
    refine (HZ.out _).mono ?_
    rintro e V1 ⟨rfl, hb⟩
    replace HBa := hideP ((hb.block _ (lt_of_block HBa.out)).trans HBa.out)
    replace HBb := hideP ((hb.block _ (lt_of_block HBb.out)).trans HBb.out)
    replace HBW := hideP (HBW.out.trans (hb.mono HBW.out.size))
    clear hb
    go_wp2_with fail
    go_ret3
    exact ⟨rfl, HBW.out⟩
  by_cases h1 : 8388608 < A % M256 + B % M256
  · have hz1 := fun W => zero_any B W
    rw [show decide (B % M256 = 0) = false by simp [hz], hB] at hz1
    have HZ := hideP hz1
    have hs1 := fun W => small_any A W
    have hs2 := fun W => small_any B W
    rw [hA] at hs1
    rw [hB] at hs2
    have ba : smallN A 8388609 ≤ 8388609 := by unfold smallN; split <;> omega
    have bb : smallN B 8388609 ≤ 8388609 := by unfold smallN; split <;> omega
    have es : IntKind.u64.wrap ((smallN A 8388609 : Int) + (smallN B 8388609 : Int)) = (smallN A 8388609 : Int) + (smallN B 8388609 : Int) := by rw [IntKind.wrap_u64]; omega
    rw [show growT s (A % M256) (B % M256) = (0, 0, 140) from (if_neg hz).trans (if_pos (by omega)), hA, hB]
    have gg : (8388608 : Int) < (smallN A 8388609 : Int) + (smallN B 8388609 : Int) := by unfold smallN; (repeat' split) <;> omega
    generalize smallN A 8388609 = u at *
    generalize smallN B 8388609 = v at *
    have HS1 := hideP hs1
    have HS2 := hideP hs2
    clear hz1 hs1 hs2 ba bb hA hB hz hs h1
    go_enter Tryd.func17, Tryd.ntmps17
    go_wp2_with fail
    refine at_world_q (fun W0 hW0 => ?_)
    obtain ⟨HBa, HBb, HBW⟩ := box2 hW0
    clear hW0
    replace HBW := hideP HBW
    replace HBa := hideP HBa
    replace HBb := hideP HBb
    refine (HZ.out _).mono ?_
    rintro e V1 ⟨rfl, hb⟩
    replace HBa := hideP ((hb.block _ (lt_of_block HBa.out)).trans HBa.out)
    replace HBb := hideP ((hb.block _ (lt_of_block HBb.out)).trans HBb.out)
    replace HBW := hideP (HBW.out.trans (hb.mono HBW.out.size))
    clear hb
    go_wp2_with fail
    obtain ⟨ca0, ca1, ca2, ca3⟩ := cells4 HBa.out
    have hla := lt_of_block HBa.out
    obtain ⟨cb0, cb1, cb2, cb3⟩ := cells4 HBb.out
    have hlb := lt_of_block HBb.out
    refine wp_region_heldS (S := fun V => Below V1.heap.size V1 V) (by kernel_rfl) (Below.refl _ _).drew (fun hS => ?_)
    refine wpAnyH_takeL (i := 0) (v := ?_) rfl (by kernel_rfl) (by kernel_rfl) (by kernel_rfl) (fun _ _ _ h => h) (Or.inl ⟨by kernel_rfl, ?_⟩) hS ?_
    rotate_left
    · intro V hV
      have k0 := (hV.cell (p := ⟨w.heap.size, 0, none⟩) hla).trans ca0
      have k1 := (hV.cell (p := ⟨w.heap.size, 1, none⟩) hla).trans ca1
      have k2 := (hV.cell (p := ⟨w.heap.size, 2, none⟩) hla).trans ca2
      have k3 := (hV.cell (p := ⟨w.heap.size, 3, none⟩) hla).trans ca3
      go_simp
      (try with_reducible rfl)
    simp only [put_list, List.set_cons_succ, List.set_cons_zero]
    refine wpAnyH_takeL (i := 2) (v := ?_) rfl (by kernel_rfl) (by kernel_rfl) (by kernel_rfl) (fun _ _ _ h => h) (Or.inl ⟨by kernel_rfl, ?_⟩) hS ?_
    rotate_left
    · intro V hV
      have k0 := (hV.cell (p := ⟨w.heap.size + 1, 0, none⟩) hlb).trans cb0
      have k1 := (hV.cell (p := ⟨w.heap.size + 1, 1, none⟩) hlb).trans cb1
      have k2 := (hV.cell (p := ⟨w.heap.size + 1, 2, none⟩) hlb).trans cb2
      have k3 := (hV.cell (p := ⟨w.heap.size + 1, 3, none⟩) hlb).trans cb3
      go_simp
      (try with_reducible rfl)
    simp only [put_list, List.set_cons_succ, List.set_cons_zero]
    refine wpAnyH_ready (rs := [1]) (by kernel_rfl) (by simp) (AllReadyH.cons rfl (fun K hK => ?_) AllReadyH.nil)
    go_simp
    refine (HS1.out _).mono ?_
    rintro e U1 ⟨rfl, hbc⟩
    refine hK.out _ _ (hS.trans (hbc.mono hS.size)) (fun hS => ?_)
    clear hK K hbc
    refine wpAnyH_ready (rs := [3]) (by kernel_rfl) (by simp) (AllReadyH.cons rfl (fun K hK => ?_) AllReadyH.nil)
    go_simp
    refine (HS2.out _).mono ?_
    rintro e U2 ⟨rfl, hbc⟩
    refine hK.out _ _ (hS.trans (hbc.mono hS.size)) (fun hS => ?_)
    clear hK K hbc
    refine wpAnyH_takeL (i := 4) (v := ?_) rfl (by kernel_rfl) (by kernel_rfl) (by kernel_rfl) (fun _ _ _ h => h) (Or.inl ⟨by kernel_rfl, ?_⟩) hS ?_
    rotate_left
    · intro V hV
      go_simp
      (try with_reducible rfl)
    simp only [put_list, List.set_cons_succ, List.set_cons_zero]
    refine wpAnyH_ready (rs := [5]) (by kernel_rfl) (by simp) (AllReadyH.cons rfl (fun K hK => ?_) AllReadyH.nil)
    go_simp
    refine hK.out _ _ hS (fun hS => ?_)
    clear hK K
    refine wpAnyH_done (by kernel_rfl) ?_ _
    replace HBW := hideP (HBW.out.trans (hS.mono HBW.out.size))
    replace HBa := hideP ((hS.block _ (lt_of_block HBa.out)).trans HBa.out)
    replace HBb := hideP ((hS.block _ (lt_of_block HBb.out)).trans HBb.out)
    clear hS
    clear ca0 ca1 ca2 ca3 hla
    clear cb0 cb1 cb2 cb3 hlb
    go_wp2_with fail
    go_ret3
    exact ⟨rfl, HBW.out⟩
  by_cases h2 : 8388608 < s
  · have hz1 := fun W => zero_any B W
    rw [show decide (B % M256 = 0) = false by simp [hz], hB] at hz1
    have HZ := hideP hz1
    have hs1 := fun W => small_any A W
    have hs2 := fun W => small_any B W
    rw [hA] at hs1
    rw [hB] at hs2
    have ba : smallN A 8388609 ≤ 8388609 := by unfold smallN; split <;> omega
    have bb : smallN B 8388609 ≤ 8388609 := by unfold smallN; split <;> omega
    have es : IntKind.u64.wrap ((smallN A 8388609 : Int) + (smallN B 8388609 : Int)) = (smallN A 8388609 : Int) + (smallN B 8388609 : Int) := by rw [IntKind.wrap_u64]; omega
    rw [show growT s (A % M256) (B % M256) = (0, 0, 140) from (if_neg hz).trans (if_pos (by omega)), hA, hB]
    have gg : ¬ (8388608 : Int) < (smallN A 8388609 : Int) + (smallN B 8388609 : Int) := by unfold smallN; (repeat' split) <;> omega
    have gs : (8388608 : Int) < (s : Int) := by omega
    generalize smallN A 8388609 = u at *
    generalize smallN B 8388609 = v at *
    have HS1 := hideP hs1
    have HS2 := hideP hs2
    clear hz1 hs1 hs2 ba bb hA hB hz hs h1 h2
    go_enter Tryd.func17, Tryd.ntmps17
    go_wp2_with fail
    refine at_world_q (fun W0 hW0 => ?_)
    obtain ⟨HBa, HBb, HBW⟩ := box2 hW0
    clear hW0
    replace HBW := hideP HBW
    replace HBa := hideP HBa
    replace HBb := hideP HBb
    refine (HZ.out _).mono ?_
    rintro e V1 ⟨rfl, hb⟩
    replace HBa := hideP ((hb.block _ (lt_of_block HBa.out)).trans HBa.out)
    replace HBb := hideP ((hb.block _ (lt_of_block HBb.out)).trans HBb.out)
    replace HBW := hideP (HBW.out.trans (hb.mono HBW.out.size))
    clear hb
    go_wp2_with fail
    obtain ⟨ca0, ca1, ca2, ca3⟩ := cells4 HBa.out
    have hla := lt_of_block HBa.out
    obtain ⟨cb0, cb1, cb2, cb3⟩ := cells4 HBb.out
    have hlb := lt_of_block HBb.out
    refine wp_region_heldS (S := fun V => Below V1.heap.size V1 V) (by kernel_rfl) (Below.refl _ _).drew (fun hS => ?_)
    refine wpAnyH_takeL (i := 0) (v := ?_) rfl (by kernel_rfl) (by kernel_rfl) (by kernel_rfl) (fun _ _ _ h => h) (Or.inl ⟨by kernel_rfl, ?_⟩) hS ?_
    rotate_left
    · intro V hV
      have k0 := (hV.cell (p := ⟨w.heap.size, 0, none⟩) hla).trans ca0
      have k1 := (hV.cell (p := ⟨w.heap.size, 1, none⟩) hla).trans ca1
      have k2 := (hV.cell (p := ⟨w.heap.size, 2, none⟩) hla).trans ca2
      have k3 := (hV.cell (p := ⟨w.heap.size, 3, none⟩) hla).trans ca3
      go_simp
      (try with_reducible rfl)
    simp only [put_list, List.set_cons_succ, List.set_cons_zero]
    refine wpAnyH_takeL (i := 2) (v := ?_) rfl (by kernel_rfl) (by kernel_rfl) (by kernel_rfl) (fun _ _ _ h => h) (Or.inl ⟨by kernel_rfl, ?_⟩) hS ?_
    rotate_left
    · intro V hV
      have k0 := (hV.cell (p := ⟨w.heap.size + 1, 0, none⟩) hlb).trans cb0
      have k1 := (hV.cell (p := ⟨w.heap.size + 1, 1, none⟩) hlb).trans cb1
      have k2 := (hV.cell (p := ⟨w.heap.size + 1, 2, none⟩) hlb).trans cb2
      have k3 := (hV.cell (p := ⟨w.heap.size + 1, 3, none⟩) hlb).trans cb3
      go_simp
      (try with_reducible rfl)
    simp only [put_list, List.set_cons_succ, List.set_cons_zero]
    refine wpAnyH_ready (rs := [1]) (by kernel_rfl) (by simp) (AllReadyH.cons rfl (fun K hK => ?_) AllReadyH.nil)
    go_simp
    refine (HS1.out _).mono ?_
    rintro e U1 ⟨rfl, hbc⟩
    refine hK.out _ _ (hS.trans (hbc.mono hS.size)) (fun hS => ?_)
    clear hK K hbc
    refine wpAnyH_ready (rs := [3]) (by kernel_rfl) (by simp) (AllReadyH.cons rfl (fun K hK => ?_) AllReadyH.nil)
    go_simp
    refine (HS2.out _).mono ?_
    rintro e U2 ⟨rfl, hbc⟩
    refine hK.out _ _ (hS.trans (hbc.mono hS.size)) (fun hS => ?_)
    clear hK K hbc
    refine wpAnyH_takeL (i := 4) (v := ?_) rfl (by kernel_rfl) (by kernel_rfl) (by kernel_rfl) (fun _ _ _ h => h) (Or.inl ⟨by kernel_rfl, ?_⟩) hS ?_
    rotate_left
    · intro V hV
      go_simp
      (try with_reducible rfl)
    simp only [put_list, List.set_cons_succ, List.set_cons_zero]
    refine wpAnyH_ready (rs := [5]) (by kernel_rfl) (by simp) (AllReadyH.cons rfl (fun K hK => ?_) AllReadyH.nil)
    go_simp
    refine hK.out _ _ hS (fun hS => ?_)
    clear hK K
    refine wpAnyH_done (by kernel_rfl) ?_ _
    replace HBW := hideP (HBW.out.trans (hS.mono HBW.out.size))
    replace HBa := hideP ((hS.block _ (lt_of_block HBa.out)).trans HBa.out)
    replace HBb := hideP ((hS.block _ (lt_of_block HBb.out)).trans HBb.out)
    clear hS
    clear ca0 ca1 ca2 ca3 hla
    clear cb0 cb1 cb2 cb3 hlb
    go_wp2_with fail
    go_ret3
    exact ⟨rfl, HBW.out⟩
  by_cases h4 : 32 * wds (A % M256 + B % M256) ≤ s
  · have hz1 := fun W => zero_any B W
    rw [show decide (B % M256 = 0) = false by simp [hz], hB] at hz1
    have HZ := hideP hz1
    have hs1 := fun W => small_any A W
    have hs2 := fun W => small_any B W
    rw [hA] at hs1
    rw [hB] at hs2
    have ba : smallN A 8388609 ≤ 8388609 := by unfold smallN; split <;> omega
    have bb : smallN B 8388609 ≤ 8388609 := by unfold smallN; split <;> omega
    have es : IntKind.u64.wrap ((smallN A 8388609 : Int) + (smallN B 8388609 : Int)) = (smallN A 8388609 : Int) + (smallN B 8388609 : Int) := by rw [IntKind.wrap_u64]; omega
    have ea : smallN A 8388609 = A % M256 := by unfold smallN; rw [if_pos (by omega)]
    have eb : smallN B 8388609 = B % M256 := by unfold smallN; rw [if_pos (by omega)]
    rw [ea] at hs1 es
    rw [eb] at hs2 es
    have hl := grow_le (s := A % M256 + B % M256) (by omega)
    have hw := fun W => pureB (rwords_any (A % M256 + B % M256) (by omega) W)
    have e8 : IntKind.u64.wrap (32 * (wds (A % M256 + B % M256) : Int)) = 32 * (wds (A % M256 + B % M256) : Int) := by rw [IntKind.wrap_u64]; omega
    have gg : ¬ (8388608 : Int) < ((A % M256 : Nat) : Int) + ((B % M256 : Nat) : Int) := by omega
    have gs : ¬ (8388608 : Int) < (s : Int) := by omega
    rw [show growT s (A % M256) (B % M256) = (s, 0, 0) from (if_neg hz).trans ((if_neg (by omega)).trans (if_pos h4)), hA, hB]
    have g4 : 32 * (wds (A % M256 + B % M256) : Int) ≤ (s : Int) := by omega
    generalize wds (A % M256 + B % M256) = k at *
    generalize A % M256 = u at *
    generalize B % M256 = v at *
    have e11 : ((u + v : Nat) : Int) = (u : Int) + (v : Int) := by omega
    rw [e11] at hw
    have HS1 := hideP hs1
    have HS2 := hideP hs2
    have HW := hideP hw
    clear hz1 hs1 hs2 hw ea eb ba bb hA hB hz hs h1 h2 h4 hl e11
    go_enter Tryd.func17, Tryd.ntmps17
    go_wp2_with fail
    refine at_world_q (fun W0 hW0 => ?_)
    obtain ⟨HBa, HBb, HBW⟩ := box2 hW0
    clear hW0
    replace HBW := hideP HBW
    replace HBa := hideP HBa
    replace HBb := hideP HBb
    refine (HZ.out _).mono ?_
    rintro e V1 ⟨rfl, hb⟩
    replace HBa := hideP ((hb.block _ (lt_of_block HBa.out)).trans HBa.out)
    replace HBb := hideP ((hb.block _ (lt_of_block HBb.out)).trans HBb.out)
    replace HBW := hideP (HBW.out.trans (hb.mono HBW.out.size))
    clear hb
    go_wp2_with fail
    obtain ⟨ca0, ca1, ca2, ca3⟩ := cells4 HBa.out
    have hla := lt_of_block HBa.out
    obtain ⟨cb0, cb1, cb2, cb3⟩ := cells4 HBb.out
    have hlb := lt_of_block HBb.out
    refine wp_region_heldS (S := fun V => Below V1.heap.size V1 V) (by kernel_rfl) (Below.refl _ _).drew (fun hS => ?_)
    refine wpAnyH_takeL (i := 0) (v := ?_) rfl (by kernel_rfl) (by kernel_rfl) (by kernel_rfl) (fun _ _ _ h => h) (Or.inl ⟨by kernel_rfl, ?_⟩) hS ?_
    rotate_left
    · intro V hV
      have k0 := (hV.cell (p := ⟨w.heap.size, 0, none⟩) hla).trans ca0
      have k1 := (hV.cell (p := ⟨w.heap.size, 1, none⟩) hla).trans ca1
      have k2 := (hV.cell (p := ⟨w.heap.size, 2, none⟩) hla).trans ca2
      have k3 := (hV.cell (p := ⟨w.heap.size, 3, none⟩) hla).trans ca3
      go_simp
      (try with_reducible rfl)
    simp only [put_list, List.set_cons_succ, List.set_cons_zero]
    refine wpAnyH_takeL (i := 2) (v := ?_) rfl (by kernel_rfl) (by kernel_rfl) (by kernel_rfl) (fun _ _ _ h => h) (Or.inl ⟨by kernel_rfl, ?_⟩) hS ?_
    rotate_left
    · intro V hV
      have k0 := (hV.cell (p := ⟨w.heap.size + 1, 0, none⟩) hlb).trans cb0
      have k1 := (hV.cell (p := ⟨w.heap.size + 1, 1, none⟩) hlb).trans cb1
      have k2 := (hV.cell (p := ⟨w.heap.size + 1, 2, none⟩) hlb).trans cb2
      have k3 := (hV.cell (p := ⟨w.heap.size + 1, 3, none⟩) hlb).trans cb3
      go_simp
      (try with_reducible rfl)
    simp only [put_list, List.set_cons_succ, List.set_cons_zero]
    refine wpAnyH_ready (rs := [1]) (by kernel_rfl) (by simp) (AllReadyH.cons rfl (fun K hK => ?_) AllReadyH.nil)
    go_simp
    refine (HS1.out _).mono ?_
    rintro e U1 ⟨rfl, hbc⟩
    refine hK.out _ _ (hS.trans (hbc.mono hS.size)) (fun hS => ?_)
    clear hK K hbc
    refine wpAnyH_ready (rs := [3]) (by kernel_rfl) (by simp) (AllReadyH.cons rfl (fun K hK => ?_) AllReadyH.nil)
    go_simp
    refine (HS2.out _).mono ?_
    rintro e U2 ⟨rfl, hbc⟩
    refine hK.out _ _ (hS.trans (hbc.mono hS.size)) (fun hS => ?_)
    clear hK K hbc
    refine wpAnyH_takeL (i := 4) (v := ?_) rfl (by kernel_rfl) (by kernel_rfl) (by kernel_rfl) (fun _ _ _ h => h) (Or.inl ⟨by kernel_rfl, ?_⟩) hS ?_
    rotate_left
    · intro V hV
      go_simp
      (try with_reducible rfl)
    simp only [put_list, List.set_cons_succ, List.set_cons_zero]
    refine wpAnyH_ready (rs := [5]) (by kernel_rfl) (by simp) (AllReadyH.cons rfl (fun K hK => ?_) AllReadyH.nil)
    go_simp
    refine hK.out _ _ hS (fun hS => ?_)
    clear hK K
    refine wpAnyH_done (by kernel_rfl) ?_ _
    replace HBW := hideP (HBW.out.trans (hS.mono HBW.out.size))
    replace HBa := hideP ((hS.block _ (lt_of_block HBa.out)).trans HBa.out)
    replace HBb := hideP ((hS.block _ (lt_of_block HBb.out)).trans HBb.out)
    clear hS
    clear ca0 ca1 ca2 ca3 hla
    clear cb0 cb1 cb2 cb3 hlb
    go_wp2_with fail
    refine (HW.out _).mono ?_
    rintro e V2 ⟨rfl, hb⟩
    replace HBa := hideP ((hb.block _ (lt_of_block HBa.out)).trans HBa.out)
    replace HBb := hideP ((hb.block _ (lt_of_block HBb.out)).trans HBb.out)
    replace HBW := hideP (HBW.out.trans (hb.mono HBW.out.size))
    clear hb
    go_wp2_with fail
    go_ret3
    exact ⟨rfl, HBW.out⟩
  · have hz1 := fun W => zero_any B W
    rw [show decide (B % M256 = 0) = false by simp [hz], hB] at hz1
    have HZ := hideP hz1
    have hs1 := fun W => small_any A W
    have hs2 := fun W => small_any B W
    rw [hA] at hs1
    rw [hB] at hs2
    have ba : smallN A 8388609 ≤ 8388609 := by unfold smallN; split <;> omega
    have bb : smallN B 8388609 ≤ 8388609 := by unfold smallN; split <;> omega
    have es : IntKind.u64.wrap ((smallN A 8388609 : Int) + (smallN B 8388609 : Int)) = (smallN A 8388609 : Int) + (smallN B 8388609 : Int) := by rw [IntKind.wrap_u64]; omega
    have ea : smallN A 8388609 = A % M256 := by unfold smallN; rw [if_pos (by omega)]
    have eb : smallN B 8388609 = B % M256 := by unfold smallN; rw [if_pos (by omega)]
    rw [ea] at hs1 es
    rw [eb] at hs2 es
    have hl := grow_le (s := A % M256 + B % M256) (by omega)
    have hw := fun W => pureB (rwords_any (A % M256 + B % M256) (by omega) W)
    have e8 : IntKind.u64.wrap (32 * (wds (A % M256 + B % M256) : Int)) = 32 * (wds (A % M256 + B % M256) : Int) := by rw [IntKind.wrap_u64]; omega
    have gg : ¬ (8388608 : Int) < ((A % M256 : Nat) : Int) + ((B % M256 : Nat) : Int) := by omega
    have gs : ¬ (8388608 : Int) < (s : Int) := by omega
    rw [show growT s (A % M256) (B % M256) = (32 * wds (A % M256 + B % M256), memN (32 * wds (A % M256 + B % M256)) - memN s, 0) from (if_neg hz).trans ((if_neg (by omega)).trans (if_neg h4)), hA, hB]
    have g4 : ¬ 32 * (wds (A % M256 + B % M256) : Int) ≤ (s : Int) := by omega
    have hm1 := fun W => pureB (rmemory_any s hs W)
    have hm2 := fun W => pureB (rmemory_any (32 * wds (A % M256 + B % M256)) (by omega) W)
    have hv := mem_le hl
    have hv2 := mem_le (s := s) (by omega)
    have hp := fun W => pureB (positive_any (memN (32 * wds (A % M256 + B % M256))) (memN s) (by omega) (by omega) W)
    have e10 : ((32 * wds (A % M256 + B % M256) : Nat) : Int) = 32 * (wds (A % M256 + B % M256) : Int) := by omega
    generalize memN (32 * wds (A % M256 + B % M256)) - memN s = d at *
    generalize memN (32 * wds (A % M256 + B % M256)) = m2 at *
    generalize memN s = m1 at *
    generalize wds (A % M256 + B % M256) = k at *
    rw [e10] at hm2
    generalize A % M256 = u at *
    generalize B % M256 = v at *
    have e11 : ((u + v : Nat) : Int) = (u : Int) + (v : Int) := by omega
    rw [e11] at hw
    have HS1 := hideP hs1
    have HS2 := hideP hs2
    have HW := hideP hw
    have HM1 := hideP hm1
    have HM2 := hideP hm2
    have HP := hideP hp
    clear hz1 hs1 hs2 hw hm1 hm2 hp hv hv2 ea eb ba bb hA hB hz hs h1 h2 h4 hl e11
    go_enter Tryd.func17, Tryd.ntmps17
    go_wp2_with fail
    refine at_world_q (fun W0 hW0 => ?_)
    obtain ⟨HBa, HBb, HBW⟩ := box2 hW0
    clear hW0
    replace HBW := hideP HBW
    replace HBa := hideP HBa
    replace HBb := hideP HBb
    refine (HZ.out _).mono ?_
    rintro e V1 ⟨rfl, hb⟩
    replace HBa := hideP ((hb.block _ (lt_of_block HBa.out)).trans HBa.out)
    replace HBb := hideP ((hb.block _ (lt_of_block HBb.out)).trans HBb.out)
    replace HBW := hideP (HBW.out.trans (hb.mono HBW.out.size))
    clear hb
    go_wp2_with fail
    obtain ⟨ca0, ca1, ca2, ca3⟩ := cells4 HBa.out
    have hla := lt_of_block HBa.out
    obtain ⟨cb0, cb1, cb2, cb3⟩ := cells4 HBb.out
    have hlb := lt_of_block HBb.out
    refine wp_region_heldS (S := fun V => Below V1.heap.size V1 V) (by kernel_rfl) (Below.refl _ _).drew (fun hS => ?_)
    refine wpAnyH_takeL (i := 0) (v := ?_) rfl (by kernel_rfl) (by kernel_rfl) (by kernel_rfl) (fun _ _ _ h => h) (Or.inl ⟨by kernel_rfl, ?_⟩) hS ?_
    rotate_left
    · intro V hV
      have k0 := (hV.cell (p := ⟨w.heap.size, 0, none⟩) hla).trans ca0
      have k1 := (hV.cell (p := ⟨w.heap.size, 1, none⟩) hla).trans ca1
      have k2 := (hV.cell (p := ⟨w.heap.size, 2, none⟩) hla).trans ca2
      have k3 := (hV.cell (p := ⟨w.heap.size, 3, none⟩) hla).trans ca3
      go_simp
      (try with_reducible rfl)
    simp only [put_list, List.set_cons_succ, List.set_cons_zero]
    refine wpAnyH_takeL (i := 2) (v := ?_) rfl (by kernel_rfl) (by kernel_rfl) (by kernel_rfl) (fun _ _ _ h => h) (Or.inl ⟨by kernel_rfl, ?_⟩) hS ?_
    rotate_left
    · intro V hV
      have k0 := (hV.cell (p := ⟨w.heap.size + 1, 0, none⟩) hlb).trans cb0
      have k1 := (hV.cell (p := ⟨w.heap.size + 1, 1, none⟩) hlb).trans cb1
      have k2 := (hV.cell (p := ⟨w.heap.size + 1, 2, none⟩) hlb).trans cb2
      have k3 := (hV.cell (p := ⟨w.heap.size + 1, 3, none⟩) hlb).trans cb3
      go_simp
      (try with_reducible rfl)
    simp only [put_list, List.set_cons_succ, List.set_cons_zero]
    refine wpAnyH_ready (rs := [1]) (by kernel_rfl) (by simp) (AllReadyH.cons rfl (fun K hK => ?_) AllReadyH.nil)
    go_simp
    refine (HS1.out _).mono ?_
    rintro e U1 ⟨rfl, hbc⟩
    refine hK.out _ _ (hS.trans (hbc.mono hS.size)) (fun hS => ?_)
    clear hK K hbc
    refine wpAnyH_ready (rs := [3]) (by kernel_rfl) (by simp) (AllReadyH.cons rfl (fun K hK => ?_) AllReadyH.nil)
    go_simp
    refine (HS2.out _).mono ?_
    rintro e U2 ⟨rfl, hbc⟩
    refine hK.out _ _ (hS.trans (hbc.mono hS.size)) (fun hS => ?_)
    clear hK K hbc
    refine wpAnyH_takeL (i := 4) (v := ?_) rfl (by kernel_rfl) (by kernel_rfl) (by kernel_rfl) (fun _ _ _ h => h) (Or.inl ⟨by kernel_rfl, ?_⟩) hS ?_
    rotate_left
    · intro V hV
      go_simp
      (try with_reducible rfl)
    simp only [put_list, List.set_cons_succ, List.set_cons_zero]
    refine wpAnyH_ready (rs := [5]) (by kernel_rfl) (by simp) (AllReadyH.cons rfl (fun K hK => ?_) AllReadyH.nil)
    go_simp
    refine hK.out _ _ hS (fun hS => ?_)
    clear hK K
    refine wpAnyH_done (by kernel_rfl) ?_ _
    replace HBW := hideP (HBW.out.trans (hS.mono HBW.out.size))
    replace HBa := hideP ((hS.block _ (lt_of_block HBa.out)).trans HBa.out)
    replace HBb := hideP ((hS.block _ (lt_of_block HBb.out)).trans HBb.out)
    clear hS
    clear ca0 ca1 ca2 ca3 hla
    clear cb0 cb1 cb2 cb3 hlb
    go_wp2_with fail
    refine (HW.out _).mono ?_
    rintro e V2 ⟨rfl, hb⟩
    replace HBa := hideP ((hb.block _ (lt_of_block HBa.out)).trans HBa.out)
    replace HBb := hideP ((hb.block _ (lt_of_block HBb.out)).trans HBb.out)
    replace HBW := hideP (HBW.out.trans (hb.mono HBW.out.size))
    clear hb
    go_wp2_with fail
    refine (HW.out _).mono ?_
    rintro e V3 ⟨rfl, hb⟩
    replace HBa := hideP ((hb.block _ (lt_of_block HBa.out)).trans HBa.out)
    replace HBb := hideP ((hb.block _ (lt_of_block HBb.out)).trans HBb.out)
    replace HBW := hideP (HBW.out.trans (hb.mono HBW.out.size))
    clear hb
    go_wp2_with fail
    refine (HW.out _).mono ?_
    rintro e V4 ⟨rfl, hb⟩
    replace HBa := hideP ((hb.block _ (lt_of_block HBa.out)).trans HBa.out)
    replace HBb := hideP ((hb.block _ (lt_of_block HBb.out)).trans HBb.out)
    replace HBW := hideP (HBW.out.trans (hb.mono HBW.out.size))
    clear hb
    go_wp2_with fail
    refine (HM2.out _).mono ?_
    rintro e V5 ⟨rfl, hb⟩
    replace HBa := hideP ((hb.block _ (lt_of_block HBa.out)).trans HBa.out)
    replace HBb := hideP ((hb.block _ (lt_of_block HBb.out)).trans HBb.out)
    replace HBW := hideP (HBW.out.trans (hb.mono HBW.out.size))
    clear hb
    go_wp2_with fail
    refine (HM1.out _).mono ?_
    rintro e V6 ⟨rfl, hb⟩
    replace HBa := hideP ((hb.block _ (lt_of_block HBa.out)).trans HBa.out)
    replace HBb := hideP ((hb.block _ (lt_of_block HBb.out)).trans HBb.out)
    replace HBW := hideP (HBW.out.trans (hb.mono HBW.out.size))
    clear hb
    go_wp2_with fail
    refine (HP.out _).mono ?_
    rintro e V7 ⟨rfl, hb⟩
    replace HBa := hideP ((hb.block _ (lt_of_block HBa.out)).trans HBa.out)
    replace HBb := hideP ((hb.block _ (lt_of_block HBb.out)).trans HBb.out)
    replace HBW := hideP (HBW.out.trans (hb.mono HBW.out.size))
    clear hb
    go_wp2_with fail
    go_ret3
    exact ⟨rfl, HBW.out⟩

end Go.Proofs.YtaeadndihchbnaaDoor
