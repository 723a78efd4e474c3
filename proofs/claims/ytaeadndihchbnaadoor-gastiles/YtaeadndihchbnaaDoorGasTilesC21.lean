/-
  Growing memory.
-/
import Derived.Test.YtaeadndihchbnaaDoorGasTilesC20
namespace Go.Proofs.YtaeadndihchbnaaDoor
open Go.RowKit Go.Shelf

theorem carry_two (X Y : Nat) {b : Bool} (h : decide (M256 ≤ X % M256 + Y % M256) = b) (w : World) : Calls Tryd.prog 62 #[wv X, wv Y] w fun e w' => e = .returned (.tuple #[wv (X + Y), .bool b]) ∧ Below w.heap.size w w' := by
  refine (carry_any w X Y).mono ?_
  rintro e w' ⟨c, rfl, hc, hs, hb⟩
  refine ⟨?_, hb⟩
  have hm : (X + Y) % M256 < M256 := Nat.mod_lt _ M256_pos
  rw [← h, show ((c : Int) == 1) = decide (M256 ≤ X % M256 + Y % M256) from ?_]
  rw [Bool.eq_iff_iff]
  simp only [beq_iff_eq, decide_eq_true_eq]
  rcases (show c = 0 ∨ c = 1 by omega) with rfl | rfl <;> omega

/-- As the document has it: the cost too. -/
def growT (s a b : Nat) : Nat × Nat × Int := if b = 0 then (s, 0, 0) else if 8388608 < a + b ∨ 8388608 < s then (0, 0, 140) else if 32 * wds (a + b) ≤ s then (s, 0, 0) else (32 * wds (a + b), memN (32 * wds (a + b)) - memN s, 0)

theorem grow_le {s : Nat} (h : s ≤ 8388608) : 32 * wds s ≤ 8388608 := by unfold wds; omega

theorem mem_le {s : Nat} (h : s ≤ 8388608) : memN s ≤ 135004160 := by
  have h1 := wds_le h
  have h2 := wds_sq h
  unfold memN
  rw [if_neg (by omega)]
  omega

theorem mem_up {s t : Nat} (h : s ≤ t) (ht : t ≤ 8388608) : memN s ≤ memN t := memN_mono h ht

set_option maxHeartbeats 2000000 in
set_option maxRecDepth 100000 in
theorem grow_any (s A B : Nat) (hs : s < 18446744073709551616) (w : World) : Calls Tryd.prog 16 #[.int .u64 s, wv A, wv B] w fun e w' => e = .returned (.tuple #[.int .u64 (growT s (A % M256) (B % M256)).1, .int .u64 (growT s (A % M256) (B % M256)).2.1, .int .i64 (growT s (A % M256) (B % M256)).2.2]) ∧ Below w.heap.size w w' := by
  obtain ⟨a0, a1, a2, a3, hA⟩ := wv_form A
  obtain ⟨b0, b1, b2, b3, hB⟩ := wv_form B
  by_cases hz : B % M256 = 0
  · have q1 := fun W => eq_zero B (b := true) (by simp [hz]) hB W
    rw [show growT s (A % M256) (B % M256) = (s, 0, 0) from if_pos hz, hA, hB]
    clear hA hB hz hs
    go_enter Tryd.func16, Tryd.ntmps16
    go_wp2_with fail
    refine at_world_t (fun W0 hW0 => ?_)
    obtain ⟨HBa, HBb, HBW⟩ := box2 hW0
    clear hW0
    replace HBW := hideP HBW
    replace HBa := hideP HBa
    replace HBb := hideP HBb
    obtain ⟨ca0, ca1, ca2, ca3⟩ := cells4 HBa.out
    have hla := lt_of_block HBa.out
    obtain ⟨cb0, cb1, cb2, cb3⟩ := cells4 HBb.out
    have hlb := lt_of_block HBb.out
    refine wp_region_heldS (S := fun V => Below W0.heap.size W0 V) (by kernel_rfl) (Below.refl _ _).drew (fun hS => ?_)
    refine wpAnyH_takeL (i := 0) (v := ?_) rfl (by kernel_rfl) (by kernel_rfl) (by kernel_rfl) (fun _ _ _ h => h) (Or.inl ⟨by kernel_rfl, ?_⟩) hS ?_
    rotate_left
    · intro V hV
      have k0 := (hV.cell (p := ⟨w.heap.size + 1, 0, none⟩) hlb).trans cb0
      have k1 := (hV.cell (p := ⟨w.heap.size + 1, 1, none⟩) hlb).trans cb1
      have k2 := (hV.cell (p := ⟨w.heap.size + 1, 2, none⟩) hlb).trans cb2
      have k3 := (hV.cell (p := ⟨w.heap.size + 1, 3, none⟩) hlb).trans cb3
      go_simp
      (try with_reducible rfl)
    simp only [put_list, List.set_cons_succ, List.set_cons_zero]
    refine wpAnyH_ready (rs := [1]) (by kernel_rfl) (by simp) (AllReadyH.cons rfl (fun K hK => ?_) AllReadyH.nil)
    go_simp
    refine (ofZero _).mono ?_
    rintro e U1 ⟨rfl, hbc⟩
    refine hK.out _ _ (hS.trans (hbc.mono hS.size)) (fun hS => ?_)
    clear hK K hbc
    refine wpAnyH_takeL (i := 2) (v := ?_) rfl (by kernel_rfl) (by kernel_rfl) (by kernel_rfl) (fun _ _ _ h => h) (Or.inl ⟨by kernel_rfl, ?_⟩) hS ?_
    rotate_left
    · intro V hV
      go_simp
      (try with_reducible rfl)
    simp only [put_list, List.set_cons_succ, List.set_cons_zero]
    refine wpAnyH_done (by kernel_rfl) ?_ _
    replace HBW := hideP (HBW.out.trans (hS.mono HBW.out.size))
    replace HBa := hideP ((hS.block _ (lt_of_block HBa.out)).trans HBa.out)
    replace HBb := hideP ((hS.block _ (lt_of_block HBb.out)).trans HBb.out)
    clear hS
    clear ca0 ca1 ca2 ca3 hla cb0 cb1 cb2 cb3 hlb
    go_wp2_with fail
    go_ret3
    exact ⟨rfl, HBW.out⟩
  by_cases h1 : M256 ≤ A % M256 + B % M256
  · have hbig : 8388608 < A % M256 + B % M256 := Nat.lt_of_lt_of_le (by decide) h1
    have q1 := fun W => eq_zero B (b := false) (by simp [hz]) hB W
    have hc := fun W => carry_two A B (b := true) (by simp; omega) W
    have hi := fun W => inMemory_any (A + B) W
    generalize memOf (A + B) = r at *
    obtain ⟨r1, r2⟩ := r
    obtain ⟨e0, e1, e2, e3, hE⟩ := wv_form (A + B)
    rw [show growT s (A % M256) (B % M256) = (0, 0, 140) from (if_neg hz).trans (if_pos (by first | exact Or.inl (by omega) | exact Or.inr (by omega))), hA, hB]
    rw [hA, hB, hE] at hc
    rw [hE] at hi
    have HC := hideP hc
    have HI := hideP hi
    clear hc hi hA hB hE hz hs h1 hbig
    go_enter Tryd.func16, Tryd.ntmps16
    go_wp2_with fail
    refine at_world_t (fun W0 hW0 => ?_)
    obtain ⟨HBa, HBb, HBW⟩ := box2 hW0
    clear hW0
    replace HBW := hideP HBW
    replace HBa := hideP HBa
    replace HBb := hideP HBb
    obtain ⟨ca0, ca1, ca2, ca3⟩ := cells4 HBa.out
    have hla := lt_of_block HBa.out
    obtain ⟨cb0, cb1, cb2, cb3⟩ := cells4 HBb.out
    have hlb := lt_of_block HBb.out
    refine wp_region_heldS (S := fun V => Below W0.heap.size W0 V) (by kernel_rfl) (Below.refl _ _).drew (fun hS => ?_)
    refine wpAnyH_takeL (i := 0) (v := ?_) rfl (by kernel_rfl) (by kernel_rfl) (by kernel_rfl) (fun _ _ _ h => h) (Or.inl ⟨by kernel_rfl, ?_⟩) hS ?_
    rotate_left
    · intro V hV
      have k0 := (hV.cell (p := ⟨w.heap.size + 1, 0, none⟩) hlb).trans cb0
      have k1 := (hV.cell (p := ⟨w.heap.size + 1, 1, none⟩) hlb).trans cb1
      have k2 := (hV.cell (p := ⟨w.heap.size + 1, 2, none⟩) hlb).trans cb2
      have k3 := (hV.cell (p := ⟨w.heap.size + 1, 3, none⟩) hlb).trans cb3
      go_simp
      (try with_reducible rfl)
    simp only [put_list, List.set_cons_succ, List.set_cons_zero]
    refine wpAnyH_ready (rs := [1]) (by kernel_rfl) (by simp) (AllReadyH.cons rfl (fun K hK => ?_) AllReadyH.nil)
    go_simp
    refine (ofZero _).mono ?_
    rintro e U1 ⟨rfl, hbc⟩
    refine hK.out _ _ (hS.trans (hbc.mono hS.size)) (fun hS => ?_)
    clear hK K hbc
    refine wpAnyH_takeL (i := 2) (v := ?_) rfl (by kernel_rfl) (by kernel_rfl) (by kernel_rfl) (fun _ _ _ h => h) (Or.inl ⟨by kernel_rfl, ?_⟩) hS ?_
    rotate_left
    · intro V hV
      go_simp
      (try with_reducible rfl)
    simp only [put_list, List.set_cons_succ, List.set_cons_zero]
    refine wpAnyH_done (by kernel_rfl) ?_ _
    replace HBW := hideP (HBW.out.trans (hS.mono HBW.out.size))
    replace HBa := hideP ((hS.block _ (lt_of_block HBa.out)).trans HBa.out)
    replace HBb := hideP ((hS.block _ (lt_of_block HBb.out)).trans HBb.out)
    clear hS
    clear ca0 ca1 ca2 ca3 hla cb0 cb1 cb2 cb3 hlb
    obtain ⟨ca0, ca1, ca2, ca3⟩ := cells4 HBa.out
    have hla := lt_of_block HBa.out
    obtain ⟨cb0, cb1, cb2, cb3⟩ := cells4 HBb.out
    have hlb := lt_of_block HBb.out
    go_wp2_with fail
    clear ca0 ca1 ca2 ca3 hla
    clear cb0 cb1 cb2 cb3 hlb
    refine (HC.out _).mono ?_
    rintro e V1 ⟨rfl, hb⟩
    replace HBa := hideP ((hb.block _ (lt_of_block HBa.out)).trans HBa.out)
    replace HBb := hideP ((hb.block _ (lt_of_block HBb.out)).trans HBb.out)
    replace HBW := hideP (HBW.out.trans (hb.mono HBW.out.size))
    clear hb
    clear HBa HBb
    go_wp2_with fail
    refine at_world_q (fun U0 hU0 => ?_)
    obtain ⟨HBe, HBU⟩ := box1 hU0
    clear hU0
    replace HBe := hideP HBe
    replace HBW := hideP (HBW.out.trans (HBU.mono HBW.out.size))
    clear HBU
    refine (HI.out _).mono ?_
    rintro e V2 ⟨rfl, hb⟩
    replace HBe := hideP ((hb.block _ (lt_of_block HBe.out)).trans HBe.out)
    replace HBW := hideP (HBW.out.trans (hb.mono HBW.out.size))
    clear hb
    go_wp2_with fail
    go_ret3
    exact ⟨rfl, HBW.out⟩
  have hsum : (A + B) % M256 = A % M256 + B % M256 := by rw [Nat.add_mod]; exact Nat.mod_eq_of_lt (by omega)
  by_cases h2 : 8388608 < s
  · have q1 := fun W => eq_zero B (b := false) (by simp [hz]) hB W
    have hc := fun W => carry_two A B (b := false) (by simp; omega) W
    have hi := fun W => inMemory_any (A + B) W
    generalize memOf (A + B) = r at *
    obtain ⟨r1, r2⟩ := r
    have gs : (8388608 : Int) < (s : Int) := by omega
    obtain ⟨e0, e1, e2, e3, hE⟩ := wv_form (A + B)
    rw [show growT s (A % M256) (B % M256) = (0, 0, 140) from (if_neg hz).trans (if_pos (by first | exact Or.inl (by omega) | exact Or.inr (by omega))), hA, hB]
    rw [hA, hB, hE] at hc
    rw [hE] at hi
    have HC := hideP hc
    have HI := hideP hi
    clear hc hi hA hB hE hz hs h1 hsum h2
    go_enter Tryd.func16, Tryd.ntmps16
    go_wp2_with fail
    refine at_world_t (fun W0 hW0 => ?_)
    obtain ⟨HBa, HBb, HBW⟩ := box2 hW0
    clear hW0
    replace HBW := hideP HBW
    replace HBa := hideP HBa
    replace HBb := hideP HBb
    obtain ⟨ca0, ca1, ca2, ca3⟩ := cells4 HBa.out
    have hla := lt_of_block HBa.out
    obtain ⟨cb0, cb1, cb2, cb3⟩ := cells4 HBb.out
    have hlb := lt_of_block HBb.out
    refine wp_region_heldS (S := fun V => Below W0.heap.size W0 V) (by kernel_rfl) (Below.refl _ _).drew (fun hS => ?_)
    refine wpAnyH_takeL (i := 0) (v := ?_) rfl (by kernel_rfl) (by kernel_rfl) (by kernel_rfl) (fun _ _ _ h => h) (Or.inl ⟨by kernel_rfl, ?_⟩) hS ?_
    rotate_left
    · intro V hV
      have k0 := (hV.cell (p := ⟨w.heap.size + 1, 0, none⟩) hlb).trans cb0
      have k1 := (hV.cell (p := ⟨w.heap.size + 1, 1, none⟩) hlb).trans cb1
      have k2 := (hV.cell (p := ⟨w.heap.size + 1, 2, none⟩) hlb).trans cb2
      have k3 := (hV.cell (p := ⟨w.heap.size + 1, 3, none⟩) hlb).trans cb3
      go_simp
      (try with_reducible rfl)
    simp only [put_list, List.set_cons_succ, List.set_cons_zero]
    refine wpAnyH_ready (rs := [1]) (by kernel_rfl) (by simp) (AllReadyH.cons rfl (fun K hK => ?_) AllReadyH.nil)
    go_simp
    refine (ofZero _).mono ?_
    rintro e U1 ⟨rfl, hbc⟩
    refine hK.out _ _ (hS.trans (hbc.mono hS.size)) (fun hS => ?_)
    clear hK K hbc
    refine wpAnyH_takeL (i := 2) (v := ?_) rfl (by kernel_rfl) (by kernel_rfl) (by kernel_rfl) (fun _ _ _ h => h) (Or.inl ⟨by kernel_rfl, ?_⟩) hS ?_
    rotate_left
    · intro V hV
      go_simp
      (try with_reducible rfl)
    simp only [put_list, List.set_cons_succ, List.set_cons_zero]
    refine wpAnyH_done (by kernel_rfl) ?_ _
    replace HBW := hideP (HBW.out.trans (hS.mono HBW.out.size))
    replace HBa := hideP ((hS.block _ (lt_of_block HBa.out)).trans HBa.out)
    replace HBb := hideP ((hS.block _ (lt_of_block HBb.out)).trans HBb.out)
    clear hS
    clear ca0 ca1 ca2 ca3 hla cb0 cb1 cb2 cb3 hlb
    obtain ⟨ca0, ca1, ca2, ca3⟩ := cells4 HBa.out
    have hla := lt_of_block HBa.out
    obtain ⟨cb0, cb1, cb2, cb3⟩ := cells4 HBb.out
    have hlb := lt_of_block HBb.out
    go_wp2_with fail
    clear ca0 ca1 ca2 ca3 hla
    clear cb0 cb1 cb2 cb3 hlb
    refine (HC.out _).mono ?_
    rintro e V1 ⟨rfl, hb⟩
    replace HBa := hideP ((hb.block _ (lt_of_block HBa.out)).trans HBa.out)
    replace HBb := hideP ((hb.block _ (lt_of_block HBb.out)).trans HBb.out)
    replace HBW := hideP (HBW.out.trans (hb.mono HBW.out.size))
    clear hb
    clear HBa HBb
    go_wp2_with fail
    refine at_world_q (fun U0 hU0 => ?_)
    obtain ⟨HBe, HBU⟩ := box1 hU0
    clear hU0
    replace HBe := hideP HBe
    replace HBW := hideP (HBW.out.trans (HBU.mono HBW.out.size))
    clear HBU
    refine (HI.out _).mono ?_
    rintro e V2 ⟨rfl, hb⟩
    replace HBe := hideP ((hb.block _ (lt_of_block HBe.out)).trans HBe.out)
    replace HBW := hideP (HBW.out.trans (hb.mono HBW.out.size))
    clear hb
    go_wp2_with fail
    go_ret3
    exact ⟨rfl, HBW.out⟩
  by_cases h3 : 8388608 < A % M256 + B % M256
  · have q1 := fun W => eq_zero B (b := false) (by simp [hz]) hB W
    have hc := fun W => carry_two A B (b := false) (by simp; omega) W
    have hi := fun W => inMemory_any (A + B) W
    rw [memOf_out (X := A + B) (by rw [hsum]; omega)] at hi
    have gs : ¬ (8388608 : Int) < (s : Int) := by omega
    obtain ⟨e0, e1, e2, e3, hE⟩ := wv_form (A + B)
    rw [show growT s (A % M256) (B % M256) = (0, 0, 140) from (if_neg hz).trans (if_pos (by first | exact Or.inl (by omega) | exact Or.inr (by omega))), hA, hB]
    rw [hA, hB, hE] at hc
    rw [hE] at hi
    have HC := hideP hc
    have HI := hideP hi
    clear hc hi hA hB hE hz hs h1 hsum h2 h3
    go_enter Tryd.func16, Tryd.ntmps16
    go_wp2_with fail
    refine at_world_t (fun W0 hW0 => ?_)
    obtain ⟨HBa, HBb, HBW⟩ := box2 hW0
    clear hW0
    replace HBW := hideP HBW
    replace HBa := hideP HBa
    replace HBb := hideP HBb
    obtain ⟨ca0, ca1, ca2, ca3⟩ := cells4 HBa.out
    have hla := lt_of_block HBa.out
    obtain ⟨cb0, cb1, cb2, cb3⟩ := cells4 HBb.out
    have hlb := lt_of_block HBb.out
    refine wp_region_heldS (S := fun V => Below W0.heap.size W0 V) (by kernel_rfl) (Below.refl _ _).drew (fun hS => ?_)
    refine wpAnyH_takeL (i := 0) (v := ?_) rfl (by kernel_rfl) (by kernel_rfl) (by kernel_rfl) (fun _ _ _ h => h) (Or.inl ⟨by kernel_rfl, ?_⟩) hS ?_
    rotate_left
    · intro V hV
      have k0 := (hV.cell (p := ⟨w.heap.size + 1, 0, none⟩) hlb).trans cb0
      have k1 := (hV.cell (p := ⟨w.heap.size + 1, 1, none⟩) hlb).trans cb1
      have k2 := (hV.cell (p := ⟨w.heap.size + 1, 2, none⟩) hlb).trans cb2
      have k3 := (hV.cell (p := ⟨w.heap.size + 1, 3, none⟩) hlb).trans cb3
      go_simp
      (try with_reducible rfl)
    simp only [put_list, List.set_cons_succ, List.set_cons_zero]
    refine wpAnyH_ready (rs := [1]) (by kernel_rfl) (by simp) (AllReadyH.cons rfl (fun K hK => ?_) AllReadyH.nil)
    go_simp
    refine (ofZero _).mono ?_
    rintro e U1 ⟨rfl, hbc⟩
    refine hK.out _ _ (hS.trans (hbc.mono hS.size)) (fun hS => ?_)
    clear hK K hbc
    refine wpAnyH_takeL (i := 2) (v := ?_) rfl (by kernel_rfl) (by kernel_rfl) (by kernel_rfl) (fun _ _ _ h => h) (Or.inl ⟨by kernel_rfl, ?_⟩) hS ?_
    rotate_left
    · intro V hV
      go_simp
      (try with_reducible rfl)
    simp only [put_list, List.set_cons_succ, List.set_cons_zero]
    refine wpAnyH_done (by kernel_rfl) ?_ _
    replace HBW := hideP (HBW.out.trans (hS.mono HBW.out.size))
    replace HBa := hideP ((hS.block _ (lt_of_block HBa.out)).trans HBa.out)
    replace HBb := hideP ((hS.block _ (lt_of_block HBb.out)).trans HBb.out)
    clear hS
    clear ca0 ca1 ca2 ca3 hla cb0 cb1 cb2 cb3 hlb
    obtain ⟨ca0, ca1, ca2, ca3⟩ := cells4 HBa.out
    have hla := lt_of_block HBa.out
    obtain ⟨cb0, cb1, cb2, cb3⟩ := cells4 HBb.out
    have hlb := lt_of_block HBb.out
    go_wp2_with fail
    clear ca0 ca1 ca2 ca3 hla
    clear cb0 cb1 cb2 cb3 hlb
    refine (HC.out _).mono ?_
    rintro e V1 ⟨rfl, hb⟩
    replace HBa := hideP ((hb.block _ (lt_of_block HBa.out)).trans HBa.out)
    replace HBb := hideP ((hb.block _ (lt_of_block HBb.out)).trans HBb.out)
    replace HBW := hideP (HBW.out.trans (hb.mono HBW.out.size))
    clear hb
    clear HBa HBb
    go_wp2_with fail
    refine at_world_q (fun U0 hU0 => ?_)
    obtain ⟨HBe, HBU⟩ := box1 hU0
    clear hU0
    replace HBe := hideP HBe
    replace HBW := hideP (HBW.out.trans (HBU.mono HBW.out.size))
    clear HBU
    refine (HI.out _).mono ?_
    rintro e V2 ⟨rfl, hb⟩
    replace HBe := hideP ((hb.block _ (lt_of_block HBe.out)).trans HBe.out)
    replace HBW := hideP (HBW.out.trans (hb.mono HBW.out.size))
    clear hb
    go_wp2_with fail
    go_ret3
    exact ⟨rfl, HBW.out⟩
  by_cases h4 : 32 * wds (A % M256 + B % M256) ≤ s
  · have q1 := fun W => eq_zero B (b := false) (by simp [hz]) hB W
    have hc := fun W => carry_two A B (b := false) (by simp; omega) W
    have hi := fun W => inMemory_any (A + B) W
    rw [memOf_in (X := A + B) (by rw [hsum]; omega), hsum] at hi
    have hl := grow_le (s := A % M256 + B % M256) (by omega)
    have hw := fun W => pureB (words_any (A % M256 + B % M256) (by omega) W)
    rw [show growT s (A % M256) (B % M256) = (s, 0, 0) from (if_neg hz).trans ((if_neg (by omega)).trans (if_pos h4)), hA, hB]
    have hm1 := fun W => pureB (memory_any s hs W)
    have g4 : ((s : Int) < 32 * (wds (A % M256 + B % M256) : Int)) = False := by simp; omega
    have g5 : max (s : Int) (32 * (wds (A % M256 + B % M256) : Int)) = (s : Int) := by omega
    have e9 : IntKind.u64.wrap 0 = 0 := by rw [IntKind.wrap_u64]; omega
    have e8 : IntKind.u64.wrap (32 * (wds (A % M256 + B % M256) : Int)) = 32 * (wds (A % M256 + B % M256) : Int) := by rw [IntKind.wrap_u64]; omega
    have gs : ¬ (8388608 : Int) < (s : Int) := by omega
    obtain ⟨e0, e1, e2, e3, hE⟩ := wv_form (A + B)
    rw [hA, hB, hE] at hc
    rw [hE] at hi
    generalize memN s = m1 at *
    generalize wds (A % M256 + B % M256) = k at *
    generalize A % M256 + B % M256 = n at *
    have HC := hideP hc
    have HI := hideP hi
    have HW := hideP hw
    have HM1 := hideP hm1
    clear hc hi hw hm1 hA hB hE hz hs h1 hsum h2 h3 h4 hl
    go_enter Tryd.func16, Tryd.ntmps16
    go_wp2_with fail
    refine at_world_t (fun W0 hW0 => ?_)
    obtain ⟨HBa, HBb, HBW⟩ := box2 hW0
    clear hW0
    replace HBW := hideP HBW
    replace HBa := hideP HBa
    replace HBb := hideP HBb
    obtain ⟨ca0, ca1, ca2, ca3⟩ := cells4 HBa.out
    have hla := lt_of_block HBa.out
    obtain ⟨cb0, cb1, cb2, cb3⟩ := cells4 HBb.out
    have hlb := lt_of_block HBb.out
    refine wp_region_heldS (S := fun V => Below W0.heap.size W0 V) (by kernel_rfl) (Below.refl _ _).drew (fun hS => ?_)
    refine wpAnyH_takeL (i := 0) (v := ?_) rfl (by kernel_rfl) (by kernel_rfl) (by kernel_rfl) (fun _ _ _ h => h) (Or.inl ⟨by kernel_rfl, ?_⟩) hS ?_
    rotate_left
    · intro V hV
      have k0 := (hV.cell (p := ⟨w.heap.size + 1, 0, none⟩) hlb).trans cb0
      have k1 := (hV.cell (p := ⟨w.heap.size + 1, 1, none⟩) hlb).trans cb1
      have k2 := (hV.cell (p := ⟨w.heap.size + 1, 2, none⟩) hlb).trans cb2
      have k3 := (hV.cell (p := ⟨w.heap.size + 1, 3, none⟩) hlb).trans cb3
      go_simp
      (try with_reducible rfl)
    simp only [put_list, List.set_cons_succ, List.set_cons_zero]
    refine wpAnyH_ready (rs := [1]) (by kernel_rfl) (by simp) (AllReadyH.cons rfl (fun K hK => ?_) AllReadyH.nil)
    go_simp
    refine (ofZero _).mono ?_
    rintro e U1 ⟨rfl, hbc⟩
    refine hK.out _ _ (hS.trans (hbc.mono hS.size)) (fun hS => ?_)
    clear hK K hbc
    refine wpAnyH_takeL (i := 2) (v := ?_) rfl (by kernel_rfl) (by kernel_rfl) (by kernel_rfl) (fun _ _ _ h => h) (Or.inl ⟨by kernel_rfl, ?_⟩) hS ?_
    rotate_left
    · intro V hV
      go_simp
      (try with_reducible rfl)
    simp only [put_list, List.set_cons_succ, List.set_cons_zero]
    refine wpAnyH_done (by kernel_rfl) ?_ _
    replace HBW := hideP (HBW.out.trans (hS.mono HBW.out.size))
    replace HBa := hideP ((hS.block _ (lt_of_block HBa.out)).trans HBa.out)
    replace HBb := hideP ((hS.block _ (lt_of_block HBb.out)).trans HBb.out)
    clear hS
    clear ca0 ca1 ca2 ca3 hla cb0 cb1 cb2 cb3 hlb
    obtain ⟨ca0, ca1, ca2, ca3⟩ := cells4 HBa.out
    have hla := lt_of_block HBa.out
    obtain ⟨cb0, cb1, cb2, cb3⟩ := cells4 HBb.out
    have hlb := lt_of_block HBb.out
    go_wp2_with fail
    clear ca0 ca1 ca2 ca3 hla
    clear cb0 cb1 cb2 cb3 hlb
    refine (HC.out _).mono ?_
    rintro e V1 ⟨rfl, hb⟩
    replace HBa := hideP ((hb.block _ (lt_of_block HBa.out)).trans HBa.out)
    replace HBb := hideP ((hb.block _ (lt_of_block HBb.out)).trans HBb.out)
    replace HBW := hideP (HBW.out.trans (hb.mono HBW.out.size))
    clear hb
    clear HBa HBb
    go_wp2_with fail
    refine at_world_q (fun U0 hU0 => ?_)
    obtain ⟨HBe, HBU⟩ := box1 hU0
    clear hU0
    replace HBe := hideP HBe
    replace HBW := hideP (HBW.out.trans (HBU.mono HBW.out.size))
    clear HBU
    refine (HI.out _).mono ?_
    rintro e V2 ⟨rfl, hb⟩
    replace HBe := hideP ((hb.block _ (lt_of_block HBe.out)).trans HBe.out)
    replace HBW := hideP (HBW.out.trans (hb.mono HBW.out.size))
    clear hb
    go_wp2_with fail
    refine (HW.out _).mono ?_
    rintro e V3 ⟨rfl, hb⟩
    replace HBe := hideP ((hb.block _ (lt_of_block HBe.out)).trans HBe.out)
    replace HBW := hideP (HBW.out.trans (hb.mono HBW.out.size))
    clear hb
    go_wp2_with fail
    refine (HM1.out _).mono ?_
    rintro e V4 ⟨rfl, hb⟩
    replace HBe := hideP ((hb.block _ (lt_of_block HBe.out)).trans HBe.out)
    replace HBW := hideP (HBW.out.trans (hb.mono HBW.out.size))
    clear hb
    go_wp2_with fail
    refine (HM1.out _).mono ?_
    rintro e V5 ⟨rfl, hb⟩
    replace HBe := hideP ((hb.block _ (lt_of_block HBe.out)).trans HBe.out)
    replace HBW := hideP (HBW.out.trans (hb.mono HBW.out.size))
    clear hb
    go_wp2_with fail
    go_ret3
    exact ⟨rfl, HBW.out⟩
  · have q1 := fun W => eq_zero B (b := false) (by simp [hz]) hB W
    have hc := fun W => carry_two A B (b := false) (by simp; omega) W
    have hi := fun W => inMemory_any (A + B) W
    rw [memOf_in (X := A + B) (by rw [hsum]; omega), hsum] at hi
    have hl := grow_le (s := A % M256 + B % M256) (by omega)
    have hw := fun W => pureB (words_any (A % M256 + B % M256) (by omega) W)
    rw [show growT s (A % M256) (B % M256) = (32 * wds (A % M256 + B % M256), memN (32 * wds (A % M256 + B % M256)) - memN s, 0) from (if_neg hz).trans ((if_neg (by omega)).trans (if_neg h4)), hA, hB]
    have hm1 := fun W => pureB (memory_any s hs W)
    have hm2 := fun W => pureB (memory_any (32 * wds (A % M256 + B % M256)) (by omega) W)
    have hu := mem_up (s := s) (t := 32 * wds (A % M256 + B % M256)) (by omega) hl
    have hv := mem_le hl
    have g5 : max (s : Int) (32 * (wds (A % M256 + B % M256) : Int)) = 32 * (wds (A % M256 + B % M256) : Int) := by omega
    have e9 : IntKind.u64.wrap ((memN (32 * wds (A % M256 + B % M256)) : Int) - (memN s : Int)) = ((memN (32 * wds (A % M256 + B % M256)) - memN s : Nat) : Int) := by rw [IntKind.wrap_u64]; omega
    have e10 : ((32 * wds (A % M256 + B % M256) : Nat) : Int) = 32 * (wds (A % M256 + B % M256) : Int) := by omega
    have e8 : IntKind.u64.wrap (32 * (wds (A % M256 + B % M256) : Int)) = 32 * (wds (A % M256 + B % M256) : Int) := by rw [IntKind.wrap_u64]; omega
    have gs : ¬ (8388608 : Int) < (s : Int) := by omega
    obtain ⟨e0, e1, e2, e3, hE⟩ := wv_form (A + B)
    rw [hA, hB, hE] at hc
    rw [hE] at hi
    generalize memN (32 * wds (A % M256 + B % M256)) - memN s = d at *
    generalize memN (32 * wds (A % M256 + B % M256)) = m2 at *
    generalize memN s = m1 at *
    generalize wds (A % M256 + B % M256) = k at *
    rw [e10] at hm2
    generalize A % M256 + B % M256 = n at *
    have HC := hideP hc
    have HI := hideP hi
    have HW := hideP hw
    have HM1 := hideP hm1
    have HM2 := hideP hm2
    clear hc hi hw hm1 hm2 hu hv hA hB hE hz hs h1 hsum h2 h3 h4 hl
    go_enter Tryd.func16, Tryd.ntmps16
    go_wp2_with fail
    refine at_world_t (fun W0 hW0 => ?_)
    obtain ⟨HBa, HBb, HBW⟩ := box2 hW0
    clear hW0
    replace HBW := hideP HBW
    replace HBa := hideP HBa
    replace HBb := hideP HBb
    obtain ⟨ca0, ca1, ca2, ca3⟩ := cells4 HBa.out
    have hla := lt_of_block HBa.out
    obtain ⟨cb0, cb1, cb2, cb3⟩ := cells4 HBb.out
    have hlb := lt_of_block HBb.out
    refine wp_region_heldS (S := fun V => Below W0.heap.size W0 V) (by kernel_rfl) (Below.refl _ _).drew (fun hS => ?_)
    refine wpAnyH_takeL (i := 0) (v := ?_) rfl (by kernel_rfl) (by kernel_rfl) (by kernel_rfl) (fun _ _ _ h => h) (Or.inl ⟨by kernel_rfl, ?_⟩) hS ?_
    rotate_left
    · intro V hV
      have k0 := (hV.cell (p := ⟨w.heap.size + 1, 0, none⟩) hlb).trans cb0
      have k1 := (hV.cell (p := ⟨w.heap.size + 1, 1, none⟩) hlb).trans cb1
      have k2 := (hV.cell (p := ⟨w.heap.size + 1, 2, none⟩) hlb).trans cb2
      have k3 := (hV.cell (p := ⟨w.heap.size + 1, 3, none⟩) hlb).trans cb3
      go_simp
      (try with_reducible rfl)
    simp only [put_list, List.set_cons_succ, List.set_cons_zero]
    refine wpAnyH_ready (rs := [1]) (by kernel_rfl) (by simp) (AllReadyH.cons rfl (fun K hK => ?_) AllReadyH.nil)
    go_simp
    refine (ofZero _).mono ?_
    rintro e U1 ⟨rfl, hbc⟩
    refine hK.out _ _ (hS.trans (hbc.mono hS.size)) (fun hS => ?_)
    clear hK K hbc
    refine wpAnyH_takeL (i := 2) (v := ?_) rfl (by kernel_rfl) (by kernel_rfl) (by kernel_rfl) (fun _ _ _ h => h) (Or.inl ⟨by kernel_rfl, ?_⟩) hS ?_
    rotate_left
    · intro V hV
      go_simp
      (try with_reducible rfl)
    simp only [put_list, List.set_cons_succ, List.set_cons_zero]
    refine wpAnyH_done (by kernel_rfl) ?_ _
    replace HBW := hideP (HBW.out.trans (hS.mono HBW.out.size))
    replace HBa := hideP ((hS.block _ (lt_of_block HBa.out)).trans HBa.out)
    replace HBb := hideP ((hS.block _ (lt_of_block HBb.out)).trans HBb.out)
    clear hS
    clear ca0 ca1 ca2 ca3 hla cb0 cb1 cb2 cb3 hlb
    obtain ⟨ca0, ca1, ca2, ca3⟩ := cells4 HBa.out
    have hla := lt_of_block HBa.out
    obtain ⟨cb0, cb1, cb2, cb3⟩ := cells4 HBb.out
    have hlb := lt_of_block HBb.out
    go_wp2_with fail
    clear ca0 ca1 ca2 ca3 hla
    clear cb0 cb1 cb2 cb3 hlb
    refine (HC.out _).mono ?_
    rintro e V1 ⟨rfl, hb⟩
    replace HBa := hideP ((hb.block _ (lt_of_block HBa.out)).trans HBa.out)
    replace HBb := hideP ((hb.block _ (lt_of_block HBb.out)).trans HBb.out)
    replace HBW := hideP (HBW.out.trans (hb.mono HBW.out.size))
    clear hb
    clear HBa HBb
    go_wp2_with fail
    refine at_world_q (fun U0 hU0 => ?_)
    obtain ⟨HBe, HBU⟩ := box1 hU0
    clear hU0
    replace HBe := hideP HBe
    replace HBW := hideP (HBW.out.trans (HBU.mono HBW.out.size))
    clear HBU
    refine (HI.out _).mono ?_
    rintro e V2 ⟨rfl, hb⟩
    replace HBe := hideP ((hb.block _ (lt_of_block HBe.out)).trans HBe.out)
    replace HBW := hideP (HBW.out.trans (hb.mono HBW.out.size))
    clear hb
    go_wp2_with fail
    refine (HW.out _).mono ?_
    rintro e V3 ⟨rfl, hb⟩
    replace HBe := hideP ((hb.block _ (lt_of_block HBe.out)).trans HBe.out)
    replace HBW := hideP (HBW.out.trans (hb.mono HBW.out.size))
    clear hb
    go_wp2_with fail
    refine (HM2.out _).mono ?_
    rintro e V4 ⟨rfl, hb⟩
    replace HBe := hideP ((hb.block _ (lt_of_block HBe.out)).trans HBe.out)
    replace HBW := hideP (HBW.out.trans (hb.mono HBW.out.size))
    clear hb
    go_wp2_with fail
    refine (HM1.out _).mono ?_
    rintro e V5 ⟨rfl, hb⟩
    replace HBe := hideP ((hb.block _ (lt_of_block HBe.out)).trans HBe.out)
    replace HBW := hideP (HBW.out.trans (hb.mono HBW.out.size))
    clear hb
    go_wp2_with fail
    go_ret3
    exact ⟨rfl, HBW.out⟩

end Go.Proofs.YtaeadndihchbnaaDoor
