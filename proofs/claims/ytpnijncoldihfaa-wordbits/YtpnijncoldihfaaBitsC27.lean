/-
  The document's words, combined bit by bit.
-/
import Derived.Test.YtpnijncoldihfaaBitsC21
import Derived.Test.YtpnijncoldihfaaBitsC26
namespace Go.Proofs.Ytpnijncoldihfaa
open Go.RowKit Go.Shelf

/-- The same with two words. -/
structure LJ (w wr : World) (bx bz br O A B V : Nat) : Prop where
  i : BI w wr bx br O A V
  y : wr.heap[bz]? = some (.cells (c4 (limb B)) 23 (0, 0))
  n3 : O ≠ bz

theorem LJ.drew {w wr : World} {bx bz br O A B V : Nat} (I : LJ w wr bx bz br O A B V) : LJ w wr.drew bx bz br O A B V := ⟨I.i.drew, I.y, I.n3⟩

theorem LJ.call {w wr w' : World} {bx bz br O A B V : Nat} (I : LJ w wr bx bz br O A B V) (h : Below wr.heap.size wr w') : LJ w w' bx bz br O A B V :=
  ⟨I.i.call h, (h.block _ (lt_of_block I.y)).trans I.y, I.n3⟩

theorem LJ.put {w wr : World} {bx bz br O A B V : Nat} (I : LJ w wr bx bz br O A B V) (V' : Nat) : LJ w (wr.setCells O 0 (c4 (limb V')).toList) bx bz br O A B V' :=
  ⟨I.i.put V', ((But.sets (c4 (limb V')).toList 0 (But.refl O wr)).same _ (Ne.symm I.n3)).trans I.y, I.n3⟩

set_option maxHeartbeats 4000000 in
set_option maxRecDepth 100000 in
theorem refAnd_any (X Y : Nat) (w : World) : Calls Try.prog 53 #[wv X, wv Y, .int .i64 0] w fun e w' => e = .returned (wv (X % M256 &&& Y % M256)) ∧ Below w.heap.size w w' := by
  have hF : ∀ i, i < 256 → bt (X % M256 &&& Y % M256) i = bt X i * bt Y i := fun i hi => by rw [bt_and, bt_word _ _ hi, bt_word _ _ hi]
  generalize X % M256 &&& Y % M256 = F at hF ⊢
  generalize hres : wv F = res
  have HRES := hideP hres
  clear hres
  rw [wv_c4 X, wv_c4 Y]
  have HF := hideP hF
  clear hF
  have HE : Hid (LJ w ((((w.alloc (.cells (c4 (limb X)) 23 (0, 0))).alloc (.cells (c4 (limb Y)) 23 (0, 0))).alloc (.cells #[.int .u64 0, .int .u64 0, .int .u64 0, .int .u64 0] 23 (0, 0))).alloc (.cells #[.int .u64 0, .int .u64 0, .int .u64 0, .int .u64 0] 23 (0, 0))) (w.heap.size) (w.heap.size + 1) (w.heap.size + 1 + 1) (w.heap.size + 1 + 1 + 1) X Y (F % 2 ^ 0)) := by
    rw [Nat.pow_zero, Nat.mod_one]
    refine ⟨⟨?_, ?_, ?_, by omega, by omega, by omega, by omega, ?_⟩, ?_, by omega⟩
    · simp only [World.alloc, Array.getElem?_push, Array.size_push]; simp [Nat.add_assoc]
    · rw [← zero4]; simp only [World.alloc, Array.getElem?_push, Array.size_push]; simp
    · rw [limb_nought, ← zero4]; simp only [World.alloc, Array.getElem?_push, Array.size_push]; simp
    · repeat first | exact Below.refl _ _ | (refine Below.alloc ?_ (by simp <;> omega) _)
    · simp only [World.alloc, Array.getElem?_push, Array.size_push]; simp [Nat.add_assoc]
  generalize hcx : c4 (limb X) = cx at HE ⊢
  generalize hcy : c4 (limb Y) = cy at HE ⊢
  clear hcx hcy
  go_enter Try.func53, Try.ntmps53
  go_wp2_with fail
  generalize (((w.alloc (.cells cx 23 (0, 0))).alloc (.cells cy 23 (0, 0))).alloc (.cells #[.int .u64 0, .int .u64 0, .int .u64 0, .int .u64 0] 23 (0, 0))).alloc (.cells #[.int .u64 0, .int .u64 0, .int .u64 0, .int .u64 0] 23 (0, 0)) = W2 at HE ⊢
  generalize hO : w.heap.size + 1 + 1 + 1 = O at HE ⊢
  clear hO
  rename_i Q' K hK
  have HK := hideP hK
  clear hK
  go_loopw [8] (fun i wr => ∃ (k : Nat), k ≤ 256 ∧ i = .int .i64 k ∧ LJ w wr (w.heap.size) (w.heap.size + 1) (w.heap.size + 1 + 1) O X Y (F % 2 ^ k)) (fun i _ => 256 - (intOf i).toNat)
  case atStart => exact ⟨0, Nat.zero_le _, rfl, HE.out⟩
  case round =>
    obtain ⟨k, hk, rfl, I⟩ := hrel
    have HI := hideP I
    clear I HE
    by_cases hlt : k < 256
    · have HN : Hid (k < 256) := hlt
      have cA := fun W => refBit_any X k hlt W
      have cB := fun W => refBit_any Y k hlt W
      simp only [wv_c4] at cA cB
      have HG := hideP (HF.out k hlt)
      have la := bt_le X k
      have lb := bt_le Y k
      have g1 : (k : Int) < 256 := by omega
      have e4 : IntKind.i64.wrap ((k : Int) + 1) = (k : Int) + 1 := by rw [IntKind.wrap_i64]; omega
      generalize bt X k = av at *
      generalize bt Y k = bv at *
      have CA := hideP cA
      have CB := hideP cB
      have LA := hideP la
      have LB := hideP lb
      clear hlt hk cA cB la lb
      go_wp2_with fail
      refine at_world_t (fun W0 hW0 => ?_)
      subst hW0
      refine wp_region_heldS (S := fun V => LJ w V (w.heap.size) (w.heap.size + 1) (w.heap.size + 1 + 1) O X Y (F % 2 ^ k)) (by kernel_rfl) HI.out.drew (fun hS => ?_)
      clear HI
      refine wpAnyH_takeL (i := 0) rfl (by kernel_rfl) (by kernel_rfl) (by kernel_rfl) (fun _ _ _ h => h) (yieldsIf_load_mid (by kernel_rfl) 23 _ rfl (w.heap.size) 0 rfl (c4 (limb (X))).toList _ (fun V hV => rangeOf hV.i.x) under23 rfl size23) hS ?_
      simp only [put_list, List.set_cons_succ, List.set_cons_zero, Array.toArray_toList]
      refine wpAnyH_takeL (i := 1) (v := ?_) rfl (by kernel_rfl) (by kernel_rfl) (by kernel_rfl) (fun _ _ _ h => h) (Or.inl ⟨by kernel_rfl, ?_⟩) hS ?_
      rotate_left
      · intro V hV
        go_simp
        (try with_reducible rfl)
      simp only [put_list, List.set_cons_succ, List.set_cons_zero]
      refine wpAnyH_takeL (i := 3) rfl (by kernel_rfl) (by kernel_rfl) (by kernel_rfl) (fun _ _ _ h => h) (yieldsIf_load_mid (by kernel_rfl) 23 _ rfl (w.heap.size + 1) 0 rfl (c4 (limb (Y))).toList _ (fun V hV => rangeOf hV.y) under23 rfl size23) hS ?_
      simp only [put_list, List.set_cons_succ, List.set_cons_zero, Array.toArray_toList]
      refine wpAnyH_takeL (i := 4) (v := ?_) rfl (by kernel_rfl) (by kernel_rfl) (by kernel_rfl) (fun _ _ _ h => h) (Or.inl ⟨by kernel_rfl, ?_⟩) hS ?_
      rotate_left
      · intro V hV
        go_simp
        (try with_reducible rfl)
      simp only [put_list, List.set_cons_succ, List.set_cons_zero]
      refine wpAnyH_ready (rs := [2]) (by kernel_rfl) (by simp) (AllReadyH.cons rfl (fun K hK => ?_) AllReadyH.nil)
      rw [if_pos (by kernel_rfl)]
      have HKX := hideP hK
      clear hK
      go_simp
      refine (CA.out _).mono ?_
      rintro e w2 ⟨rfl, hb4⟩
      replace hS := hS.call hb4
      clear hb4
      refine HKX.out.out _ _ hS (fun hS => ?_)
      clear HKX K
      refine wpAnyH_ready (rs := [5]) (by kernel_rfl) (by simp) (AllReadyH.cons rfl (fun K hK => ?_) AllReadyH.nil)
      rw [if_pos (by kernel_rfl)]
      have HKX := hideP hK
      clear hK
      go_simp
      refine (CB.out _).mono ?_
      rintro e w3 ⟨rfl, hb4⟩
      replace hS := hS.call hb4
      clear hb4
      refine HKX.out.out _ _ hS (fun hS => ?_)
      clear HKX K
      refine wpAnyH_takeL (i := 6) (v := ?_) rfl (by kernel_rfl) (by kernel_rfl) (by kernel_rfl) (fun _ _ _ h => h) (Or.inl ⟨by kernel_rfl, ?_⟩) hS ?_
      rotate_left
      · intro V hV
        go_simp
        (try with_reducible rfl)
      simp only [put_list, List.set_cons_succ, List.set_cons_zero]
      refine wpAnyH_takeL (i := 7) (v := ?_) rfl (by kernel_rfl) (by kernel_rfl) (by kernel_rfl) (fun _ _ _ h => h) (Or.inl ⟨by kernel_rfl, ?_⟩) hS ?_
      rotate_left
      · intro V hV
        go_simp
        (try with_reducible rfl)
      simp only [put_list, List.set_cons_succ, List.set_cons_zero]
      refine wpAnyH_done (by kernel_rfl) ?_ _
      have HI3 := hideP hS
      clear hS CA CB
      have la := LA.out
      have lb := LB.out
      rcases (show av = 0 ∨ av = 1 by omega) with ha | ha <;> rcases (show bv = 0 ∨ bv = 1 by omega) with hb | hb <;> subst ha hb <;> clear la lb LA LB
      · have hbc : bt F k = 0 := by rw [HG.out]
        have cS := fun W => setBit_any (F % 2 ^ k) k (bt F k) (Nat.mod_lt _ (Nat.pow_pos (by decide))) HN.out (bt_le _ _) W
        rw [← mod_bit, hbc] at cS
        simp only [wv_c4] at cS
        have CS := hideP cS
        have lo := rangeOf HI3.out.i.o
        clear cS hbc HG
        go_wp2_with (refine wpList_load_mid rfl 23 _ rfl O 0 rfl (c4 (limb (F % 2 ^ k))).toList _ lo under23 rfl size23 ?_)
        refine (CS.out _).mono ?_
        rintro e w4 ⟨rfl, hb4⟩
        have HI4 := hideP (HI3.out.call hb4)
        clear hb4 HI3 lo CS
        go_wp2_with (refine wpList_store_mid rfl 23 _ _ rfl O 0 (c4 (limb (F % 2 ^ (k + 1)))) rfl rfl (there4 HI4.out.i.o) size23 (oneCell4 _) ?_; refine Hid.out ?_)
        refine hideP ?_
        have HI5 := hideP (HI4.out.put (F % 2 ^ (k + 1)))
        clear HI4
        (try simp only [put_none])
        generalize w4.setCells O 0 (c4 (limb (F % 2 ^ (k + 1)))).toList = w5 at HI5 ⊢
        go_wp2_with fail
        refine ⟨⟨k + 1, HN.out, by go_num, HI5.out⟩, by have := HN.out; simp [intOf]; omega⟩
      · have hbc : bt F k = 0 := by rw [HG.out]
        have cS := fun W => setBit_any (F % 2 ^ k) k (bt F k) (Nat.mod_lt _ (Nat.pow_pos (by decide))) HN.out (bt_le _ _) W
        rw [← mod_bit, hbc] at cS
        simp only [wv_c4] at cS
        have CS := hideP cS
        have lo := rangeOf HI3.out.i.o
        clear cS hbc HG
        go_wp2_with (refine wpList_load_mid rfl 23 _ rfl O 0 rfl (c4 (limb (F % 2 ^ k))).toList _ lo under23 rfl size23 ?_)
        refine (CS.out _).mono ?_
        rintro e w4 ⟨rfl, hb4⟩
        have HI4 := hideP (HI3.out.call hb4)
        clear hb4 HI3 lo CS
        go_wp2_with (refine wpList_store_mid rfl 23 _ _ rfl O 0 (c4 (limb (F % 2 ^ (k + 1)))) rfl rfl (there4 HI4.out.i.o) size23 (oneCell4 _) ?_; refine Hid.out ?_)
        refine hideP ?_
        have HI5 := hideP (HI4.out.put (F % 2 ^ (k + 1)))
        clear HI4
        (try simp only [put_none])
        generalize w4.setCells O 0 (c4 (limb (F % 2 ^ (k + 1)))).toList = w5 at HI5 ⊢
        go_wp2_with fail
        refine ⟨⟨k + 1, HN.out, by go_num, HI5.out⟩, by have := HN.out; simp [intOf]; omega⟩
      · have hbc : bt F k = 0 := by rw [HG.out]
        have cS := fun W => setBit_any (F % 2 ^ k) k (bt F k) (Nat.mod_lt _ (Nat.pow_pos (by decide))) HN.out (bt_le _ _) W
        rw [← mod_bit, hbc] at cS
        simp only [wv_c4] at cS
        have CS := hideP cS
        have lo := rangeOf HI3.out.i.o
        clear cS hbc HG
        go_wp2_with (refine wpList_load_mid rfl 23 _ rfl O 0 rfl (c4 (limb (F % 2 ^ k))).toList _ lo under23 rfl size23 ?_)
        refine (CS.out _).mono ?_
        rintro e w4 ⟨rfl, hb4⟩
        have HI4 := hideP (HI3.out.call hb4)
        clear hb4 HI3 lo CS
        go_wp2_with (refine wpList_store_mid rfl 23 _ _ rfl O 0 (c4 (limb (F % 2 ^ (k + 1)))) rfl rfl (there4 HI4.out.i.o) size23 (oneCell4 _) ?_; refine Hid.out ?_)
        refine hideP ?_
        have HI5 := hideP (HI4.out.put (F % 2 ^ (k + 1)))
        clear HI4
        (try simp only [put_none])
        generalize w4.setCells O 0 (c4 (limb (F % 2 ^ (k + 1)))).toList = w5 at HI5 ⊢
        go_wp2_with fail
        refine ⟨⟨k + 1, HN.out, by go_num, HI5.out⟩, by have := HN.out; simp [intOf]; omega⟩
      · have hbc : bt F k = 1 := by rw [HG.out]
        have cS := fun W => setBit_any (F % 2 ^ k) k (bt F k) (Nat.mod_lt _ (Nat.pow_pos (by decide))) HN.out (bt_le _ _) W
        rw [← mod_bit, hbc] at cS
        simp only [wv_c4] at cS
        have CS := hideP cS
        have lo := rangeOf HI3.out.i.o
        clear cS hbc HG
        go_wp2_with (refine wpList_load_mid rfl 23 _ rfl O 0 rfl (c4 (limb (F % 2 ^ k))).toList _ lo under23 rfl size23 ?_)
        refine (CS.out _).mono ?_
        rintro e w4 ⟨rfl, hb4⟩
        have HI4 := hideP (HI3.out.call hb4)
        clear hb4 HI3 lo CS
        go_wp2_with (refine wpList_store_mid rfl 23 _ _ rfl O 0 (c4 (limb (F % 2 ^ (k + 1)))) rfl rfl (there4 HI4.out.i.o) size23 (oneCell4 _) ?_; refine Hid.out ?_)
        refine hideP ?_
        have HI5 := hideP (HI4.out.put (F % 2 ^ (k + 1)))
        clear HI4
        (try simp only [put_none])
        generalize w4.setCells O 0 (c4 (limb (F % 2 ^ (k + 1)))).toList = w5 at HI5 ⊢
        go_wp2_with fail
        refine ⟨⟨k + 1, HN.out, by go_num, HI5.out⟩, by have := HN.out; simp [intOf]; omega⟩
    · have hk6 : k = 256 := by omega
      subst hk6
      have g1 : ¬ ((256 : Nat) : Int) < 256 := by decide
      clear hlt hk
      go_wp2_with fail
      refine HK.out _ _ ?_
      refine endRow (C := c4 (limb (F % 2 ^ 256))) rfl rfl rfl (by decide) (by show 44 < 45; decide) rfl under23 rfl size23 (oneCell4 _) (rangeOf HI.out.i.o) (there4 HI.out.i.r) ?_
      intro wS h
      exact ⟨by rw [← HRES.out, ← wv_c4, wv_two], HI.out.i.b.trans (h.below.mono (by omega))⟩

set_option maxHeartbeats 4000000 in
set_option maxRecDepth 100000 in
theorem refOr_any (X Y : Nat) (w : World) : Calls Try.prog 53 #[wv X, wv Y, .int .i64 1] w fun e w' => e = .returned (wv (X % M256 ||| Y % M256)) ∧ Below w.heap.size w w' := by
  have hF : ∀ i, i < 256 → bt (X % M256 ||| Y % M256) i = bt X i + bt Y i - bt X i * bt Y i := fun i hi => by rw [bt_or, bt_word _ _ hi, bt_word _ _ hi]
  generalize X % M256 ||| Y % M256 = F at hF ⊢
  generalize hres : wv F = res
  have HRES := hideP hres
  clear hres
  rw [wv_c4 X, wv_c4 Y]
  have HF := hideP hF
  clear hF
  have HE : Hid (LJ w ((((w.alloc (.cells (c4 (limb X)) 23 (0, 0))).alloc (.cells (c4 (limb Y)) 23 (0, 0))).alloc (.cells #[.int .u64 0, .int .u64 0, .int .u64 0, .int .u64 0] 23 (0, 0))).alloc (.cells #[.int .u64 0, .int .u64 0, .int .u64 0, .int .u64 0] 23 (0, 0))) (w.heap.size) (w.heap.size + 1) (w.heap.size + 1 + 1) (w.heap.size + 1 + 1 + 1) X Y (F % 2 ^ 0)) := by
    rw [Nat.pow_zero, Nat.mod_one]
    refine ⟨⟨?_, ?_, ?_, by omega, by omega, by omega, by omega, ?_⟩, ?_, by omega⟩
    · simp only [World.alloc, Array.getElem?_push, Array.size_push]; simp [Nat.add_assoc]
    · rw [← zero4]; simp only [World.alloc, Array.getElem?_push, Array.size_push]; simp
    · rw [limb_nought, ← zero4]; simp only [World.alloc, Array.getElem?_push, Array.size_push]; simp
    · repeat first | exact Below.refl _ _ | (refine Below.alloc ?_ (by simp <;> omega) _)
    · simp only [World.alloc, Array.getElem?_push, Array.size_push]; simp [Nat.add_assoc]
  generalize hcx : c4 (limb X) = cx at HE ⊢
  generalize hcy : c4 (limb Y) = cy at HE ⊢
  clear hcx hcy
  go_enter Try.func53, Try.ntmps53
  go_wp2_with fail
  generalize (((w.alloc (.cells cx 23 (0, 0))).alloc (.cells cy 23 (0, 0))).alloc (.cells #[.int .u64 0, .int .u64 0, .int .u64 0, .int .u64 0] 23 (0, 0))).alloc (.cells #[.int .u64 0, .int .u64 0, .int .u64 0, .int .u64 0] 23 (0, 0)) = W2 at HE ⊢
  generalize hO : w.heap.size + 1 + 1 + 1 = O at HE ⊢
  clear hO
  rename_i Q' K hK
  have HK := hideP hK
  clear hK
  go_loopw [8] (fun i wr => ∃ (k : Nat), k ≤ 256 ∧ i = .int .i64 k ∧ LJ w wr (w.heap.size) (w.heap.size + 1) (w.heap.size + 1 + 1) O X Y (F % 2 ^ k)) (fun i _ => 256 - (intOf i).toNat)
  case atStart => exact ⟨0, Nat.zero_le _, rfl, HE.out⟩
  case round =>
    obtain ⟨k, hk, rfl, I⟩ := hrel
    have HI := hideP I
    clear I HE
    by_cases hlt : k < 256
    · have HN : Hid (k < 256) := hlt
      have cA := fun W => refBit_any X k hlt W
      have cB := fun W => refBit_any Y k hlt W
      simp only [wv_c4] at cA cB
      have HG := hideP (HF.out k hlt)
      have la := bt_le X k
      have lb := bt_le Y k
      have g1 : (k : Int) < 256 := by omega
      have e4 : IntKind.i64.wrap ((k : Int) + 1) = (k : Int) + 1 := by rw [IntKind.wrap_i64]; omega
      generalize bt X k = av at *
      generalize bt Y k = bv at *
      have CA := hideP cA
      have CB := hideP cB
      have LA := hideP la
      have LB := hideP lb
      clear hlt hk cA cB la lb
      go_wp2_with fail
      refine at_world_t (fun W0 hW0 => ?_)
      subst hW0
      refine wp_region_heldS (S := fun V => LJ w V (w.heap.size) (w.heap.size + 1) (w.heap.size + 1 + 1) O X Y (F % 2 ^ k)) (by kernel_rfl) HI.out.drew (fun hS => ?_)
      clear HI
      refine wpAnyH_takeL (i := 0) rfl (by kernel_rfl) (by kernel_rfl) (by kernel_rfl) (fun _ _ _ h => h) (yieldsIf_load_mid (by kernel_rfl) 23 _ rfl (w.heap.size) 0 rfl (c4 (limb (X))).toList _ (fun V hV => rangeOf hV.i.x) under23 rfl size23) hS ?_
      simp only [put_list, List.set_cons_succ, List.set_cons_zero, Array.toArray_toList]
      refine wpAnyH_takeL (i := 1) (v := ?_) rfl (by kernel_rfl) (by kernel_rfl) (by kernel_rfl) (fun _ _ _ h => h) (Or.inl ⟨by kernel_rfl, ?_⟩) hS ?_
      rotate_left
      · intro V hV
        go_simp
        (try with_reducible rfl)
      simp only [put_list, List.set_cons_succ, List.set_cons_zero]
      refine wpAnyH_takeL (i := 3) rfl (by kernel_rfl) (by kernel_rfl) (by kernel_rfl) (fun _ _ _ h => h) (yieldsIf_load_mid (by kernel_rfl) 23 _ rfl (w.heap.size + 1) 0 rfl (c4 (limb (Y))).toList _ (fun V hV => rangeOf hV.y) under23 rfl size23) hS ?_
      simp only [put_list, List.set_cons_succ, List.set_cons_zero, Array.toArray_toList]
      refine wpAnyH_takeL (i := 4) (v := ?_) rfl (by kernel_rfl) (by kernel_rfl) (by kernel_rfl) (fun _ _ _ h => h) (Or.inl ⟨by kernel_rfl, ?_⟩) hS ?_
      rotate_left
      · intro V hV
        go_simp
        (try with_reducible rfl)
      simp only [put_list, List.set_cons_succ, List.set_cons_zero]
      refine wpAnyH_ready (rs := [2]) (by kernel_rfl) (by simp) (AllReadyH.cons rfl (fun K hK => ?_) AllReadyH.nil)
      rw [if_pos (by kernel_rfl)]
      have HKX := hideP hK
      clear hK
      go_simp
      refine (CA.out _).mono ?_
      rintro e w2 ⟨rfl, hb4⟩
      replace hS := hS.call hb4
      clear hb4
      refine HKX.out.out _ _ hS (fun hS => ?_)
      clear HKX K
      refine wpAnyH_ready (rs := [5]) (by kernel_rfl) (by simp) (AllReadyH.cons rfl (fun K hK => ?_) AllReadyH.nil)
      rw [if_pos (by kernel_rfl)]
      have HKX := hideP hK
      clear hK
      go_simp
      refine (CB.out _).mono ?_
      rintro e w3 ⟨rfl, hb4⟩
      replace hS := hS.call hb4
      clear hb4
      refine HKX.out.out _ _ hS (fun hS => ?_)
      clear HKX K
      refine wpAnyH_takeL (i := 6) (v := ?_) rfl (by kernel_rfl) (by kernel_rfl) (by kernel_rfl) (fun _ _ _ h => h) (Or.inl ⟨by kernel_rfl, ?_⟩) hS ?_
      rotate_left
      · intro V hV
        go_simp
        (try with_reducible rfl)
      simp only [put_list, List.set_cons_succ, List.set_cons_zero]
      refine wpAnyH_takeL (i := 7) (v := ?_) rfl (by kernel_rfl) (by kernel_rfl) (by kernel_rfl) (fun _ _ _ h => h) (Or.inl ⟨by kernel_rfl, ?_⟩) hS ?_
      rotate_left
      · intro V hV
        go_simp
        (try with_reducible rfl)
      simp only [put_list, List.set_cons_succ, List.set_cons_zero]
      refine wpAnyH_done (by kernel_rfl) ?_ _
      have HI3 := hideP hS
      clear hS CA CB
      have la := LA.out
      have lb := LB.out
      rcases (show av = 0 ∨ av = 1 by omega) with ha | ha <;> rcases (show bv = 0 ∨ bv = 1 by omega) with hb | hb <;> subst ha hb <;> clear la lb LA LB
      · have hbc : bt F k = 0 := by rw [HG.out]
        have cS := fun W => setBit_any (F % 2 ^ k) k (bt F k) (Nat.mod_lt _ (Nat.pow_pos (by decide))) HN.out (bt_le _ _) W
        rw [← mod_bit, hbc] at cS
        simp only [wv_c4] at cS
        have CS := hideP cS
        have lo := rangeOf HI3.out.i.o
        clear cS hbc HG
        go_wp2_with (refine wpList_load_mid rfl 23 _ rfl O 0 rfl (c4 (limb (F % 2 ^ k))).toList _ lo under23 rfl size23 ?_)
        refine (CS.out _).mono ?_
        rintro e w4 ⟨rfl, hb4⟩
        have HI4 := hideP (HI3.out.call hb4)
        clear hb4 HI3 lo CS
        go_wp2_with (refine wpList_store_mid rfl 23 _ _ rfl O 0 (c4 (limb (F % 2 ^ (k + 1)))) rfl rfl (there4 HI4.out.i.o) size23 (oneCell4 _) ?_; refine Hid.out ?_)
        refine hideP ?_
        have HI5 := hideP (HI4.out.put (F % 2 ^ (k + 1)))
        clear HI4
        (try simp only [put_none])
        generalize w4.setCells O 0 (c4 (limb (F % 2 ^ (k + 1)))).toList = w5 at HI5 ⊢
        go_wp2_with fail
        refine ⟨⟨k + 1, HN.out, by go_num, HI5.out⟩, by have := HN.out; simp [intOf]; omega⟩
      · have hbc : bt F k = 1 := by rw [HG.out]
        have cS := fun W => setBit_any (F % 2 ^ k) k (bt F k) (Nat.mod_lt _ (Nat.pow_pos (by decide))) HN.out (bt_le _ _) W
        rw [← mod_bit, hbc] at cS
        simp only [wv_c4] at cS
        have CS := hideP cS
        have lo := rangeOf HI3.out.i.o
        clear cS hbc HG
        go_wp2_with (refine wpList_load_mid rfl 23 _ rfl O 0 rfl (c4 (limb (F % 2 ^ k))).toList _ lo under23 rfl size23 ?_)
        refine (CS.out _).mono ?_
        rintro e w4 ⟨rfl, hb4⟩
        have HI4 := hideP (HI3.out.call hb4)
        clear hb4 HI3 lo CS
        go_wp2_with (refine wpList_store_mid rfl 23 _ _ rfl O 0 (c4 (limb (F % 2 ^ (k + 1)))) rfl rfl (there4 HI4.out.i.o) size23 (oneCell4 _) ?_; refine Hid.out ?_)
        refine hideP ?_
        have HI5 := hideP (HI4.out.put (F % 2 ^ (k + 1)))
        clear HI4
        (try simp only [put_none])
        generalize w4.setCells O 0 (c4 (limb (F % 2 ^ (k + 1)))).toList = w5 at HI5 ⊢
        go_wp2_with fail
        refine ⟨⟨k + 1, HN.out, by go_num, HI5.out⟩, by have := HN.out; simp [intOf]; omega⟩
      · have hbc : bt F k = 1 := by rw [HG.out]
        have cS := fun W => setBit_any (F % 2 ^ k) k (bt F k) (Nat.mod_lt _ (Nat.pow_pos (by decide))) HN.out (bt_le _ _) W
        rw [← mod_bit, hbc] at cS
        simp only [wv_c4] at cS
        have CS := hideP cS
        have lo := rangeOf HI3.out.i.o
        clear cS hbc HG
        go_wp2_with (refine wpList_load_mid rfl 23 _ rfl O 0 rfl (c4 (limb (F % 2 ^ k))).toList _ lo under23 rfl size23 ?_)
        refine (CS.out _).mono ?_
        rintro e w4 ⟨rfl, hb4⟩
        have HI4 := hideP (HI3.out.call hb4)
        clear hb4 HI3 lo CS
        go_wp2_with (refine wpList_store_mid rfl 23 _ _ rfl O 0 (c4 (limb (F % 2 ^ (k + 1)))) rfl rfl (there4 HI4.out.i.o) size23 (oneCell4 _) ?_; refine Hid.out ?_)
        refine hideP ?_
        have HI5 := hideP (HI4.out.put (F % 2 ^ (k + 1)))
        clear HI4
        (try simp only [put_none])
        generalize w4.setCells O 0 (c4 (limb (F % 2 ^ (k + 1)))).toList = w5 at HI5 ⊢
        go_wp2_with fail
        refine ⟨⟨k + 1, HN.out, by go_num, HI5.out⟩, by have := HN.out; simp [intOf]; omega⟩
      · have hbc : bt F k = 1 := by rw [HG.out]
        have cS := fun W => setBit_any (F % 2 ^ k) k (bt F k) (Nat.mod_lt _ (Nat.pow_pos (by decide))) HN.out (bt_le _ _) W
        rw [← mod_bit, hbc] at cS
        simp only [wv_c4] at cS
        have CS := hideP cS
        have lo := rangeOf HI3.out.i.o
        clear cS hbc HG
        go_wp2_with (refine wpList_load_mid rfl 23 _ rfl O 0 rfl (c4 (limb (F % 2 ^ k))).toList _ lo under23 rfl size23 ?_)
        refine (CS.out _).mono ?_
        rintro e w4 ⟨rfl, hb4⟩
        have HI4 := hideP (HI3.out.call hb4)
        clear hb4 HI3 lo CS
        go_wp2_with (refine wpList_store_mid rfl 23 _ _ rfl O 0 (c4 (limb (F % 2 ^ (k + 1)))) rfl rfl (there4 HI4.out.i.o) size23 (oneCell4 _) ?_; refine Hid.out ?_)
        refine hideP ?_
        have HI5 := hideP (HI4.out.put (F % 2 ^ (k + 1)))
        clear HI4
        (try simp only [put_none])
        generalize w4.setCells O 0 (c4 (limb (F % 2 ^ (k + 1)))).toList = w5 at HI5 ⊢
        go_wp2_with fail
        refine ⟨⟨k + 1, HN.out, by go_num, HI5.out⟩, by have := HN.out; simp [intOf]; omega⟩
    · have hk6 : k = 256 := by omega
      subst hk6
      have g1 : ¬ ((256 : Nat) : Int) < 256 := by decide
      clear hlt hk
      go_wp2_with fail
      refine HK.out _ _ ?_
      refine endRow (C := c4 (limb (F % 2 ^ 256))) rfl rfl rfl (by decide) (by show 44 < 45; decide) rfl under23 rfl size23 (oneCell4 _) (rangeOf HI.out.i.o) (there4 HI.out.i.r) ?_
      intro wS h
      exact ⟨by rw [← HRES.out, ← wv_c4, wv_two], HI.out.i.b.trans (h.below.mono (by omega))⟩

set_option maxHeartbeats 4000000 in
set_option maxRecDepth 100000 in
theorem refXor_any (X Y : Nat) (w : World) : Calls Try.prog 53 #[wv X, wv Y, .int .i64 2] w fun e w' => e = .returned (wv (X % M256 ^^^ Y % M256)) ∧ Below w.heap.size w w' := by
  have hF : ∀ i, i < 256 → bt (X % M256 ^^^ Y % M256) i = (bt X i + bt Y i) % 2 := fun i hi => by rw [bt_xor, bt_word _ _ hi, bt_word _ _ hi]
  generalize X % M256 ^^^ Y % M256 = F at hF ⊢
  generalize hres : wv F = res
  have HRES := hideP hres
  clear hres
  rw [wv_c4 X, wv_c4 Y]
  have HF := hideP hF
  clear hF
  have HE : Hid (LJ w ((((w.alloc (.cells (c4 (limb X)) 23 (0, 0))).alloc (.cells (c4 (limb Y)) 23 (0, 0))).alloc (.cells #[.int .u64 0, .int .u64 0, .int .u64 0, .int .u64 0] 23 (0, 0))).alloc (.cells #[.int .u64 0, .int .u64 0, .int .u64 0, .int .u64 0] 23 (0, 0))) (w.heap.size) (w.heap.size + 1) (w.heap.size + 1 + 1) (w.heap.size + 1 + 1 + 1) X Y (F % 2 ^ 0)) := by
    rw [Nat.pow_zero, Nat.mod_one]
    refine ⟨⟨?_, ?_, ?_, by omega, by omega, by omega, by omega, ?_⟩, ?_, by omega⟩
    · simp only [World.alloc, Array.getElem?_push, Array.size_push]; simp [Nat.add_assoc]
    · rw [← zero4]; simp only [World.alloc, Array.getElem?_push, Array.size_push]; simp
    · rw [limb_nought, ← zero4]; simp only [World.alloc, Array.getElem?_push, Array.size_push]; simp
    · repeat first | exact Below.refl _ _ | (refine Below.alloc ?_ (by simp <;> omega) _)
    · simp only [World.alloc, Array.getElem?_push, Array.size_push]; simp [Nat.add_assoc]
  generalize hcx : c4 (limb X) = cx at HE ⊢
  generalize hcy : c4 (limb Y) = cy at HE ⊢
  clear hcx hcy
  go_enter Try.func53, Try.ntmps53
  go_wp2_with fail
  generalize (((w.alloc (.cells cx 23 (0, 0))).alloc (.cells cy 23 (0, 0))).alloc (.cells #[.int .u64 0, .int .u64 0, .int .u64 0, .int .u64 0] 23 (0, 0))).alloc (.cells #[.int .u64 0, .int .u64 0, .int .u64 0, .int .u64 0] 23 (0, 0)) = W2 at HE ⊢
  generalize hO : w.heap.size + 1 + 1 + 1 = O at HE ⊢
  clear hO
  rename_i Q' K hK
  have HK := hideP hK
  clear hK
  go_loopw [8] (fun i wr => ∃ (k : Nat), k ≤ 256 ∧ i = .int .i64 k ∧ LJ w wr (w.heap.size) (w.heap.size + 1) (w.heap.size + 1 + 1) O X Y (F % 2 ^ k)) (fun i _ => 256 - (intOf i).toNat)
  case atStart => exact ⟨0, Nat.zero_le _, rfl, HE.out⟩
  case round =>
    obtain ⟨k, hk, rfl, I⟩ := hrel
    have HI := hideP I
    clear I HE
    by_cases hlt : k < 256
    · have HN : Hid (k < 256) := hlt
      have cA := fun W => refBit_any X k hlt W
      have cB := fun W => refBit_any Y k hlt W
      simp only [wv_c4] at cA cB
      have HG := hideP (HF.out k hlt)
      have la := bt_le X k
      have lb := bt_le Y k
      have g1 : (k : Int) < 256 := by omega
      have e4 : IntKind.i64.wrap ((k : Int) + 1) = (k : Int) + 1 := by rw [IntKind.wrap_i64]; omega
      generalize bt X k = av at *
      generalize bt Y k = bv at *
      have CA := hideP cA
      have CB := hideP cB
      have LA := hideP la
      have LB := hideP lb
      clear hlt hk cA cB la lb
      go_wp2_with fail
      refine at_world_t (fun W0 hW0 => ?_)
      subst hW0
      refine wp_region_heldS (S := fun V => LJ w V (w.heap.size) (w.heap.size + 1) (w.heap.size + 1 + 1) O X Y (F % 2 ^ k)) (by kernel_rfl) HI.out.drew (fun hS => ?_)
      clear HI
      refine wpAnyH_takeL (i := 0) rfl (by kernel_rfl) (by kernel_rfl) (by kernel_rfl) (fun _ _ _ h => h) (yieldsIf_load_mid (by kernel_rfl) 23 _ rfl (w.heap.size) 0 rfl (c4 (limb (X))).toList _ (fun V hV => rangeOf hV.i.x) under23 rfl size23) hS ?_
      simp only [put_list, List.set_cons_succ, List.set_cons_zero, Array.toArray_toList]
      refine wpAnyH_takeL (i := 1) (v := ?_) rfl (by kernel_rfl) (by kernel_rfl) (by kernel_rfl) (fun _ _ _ h => h) (Or.inl ⟨by kernel_rfl, ?_⟩) hS ?_
      rotate_left
      · intro V hV
        go_simp
        (try with_reducible rfl)
      simp only [put_list, List.set_cons_succ, List.set_cons_zero]
      refine wpAnyH_takeL (i := 3) rfl (by kernel_rfl) (by kernel_rfl) (by kernel_rfl) (fun _ _ _ h => h) (yieldsIf_load_mid (by kernel_rfl) 23 _ rfl (w.heap.size + 1) 0 rfl (c4 (limb (Y))).toList _ (fun V hV => rangeOf hV.y) under23 rfl size23) hS ?_
      simp only [put_list, List.set_cons_succ, List.set_cons_zero, Array.toArray_toList]
      refine wpAnyH_takeL (i := 4) (v := ?_) rfl (by kernel_rfl) (by kernel_rfl) (by kernel_rfl) (fun _ _ _ h => h) (Or.inl ⟨by kernel_rfl, ?_⟩) hS ?_
      rotate_left
      · intro V hV
        go_simp
        (try with_reducible rfl)
      simp only [put_list, List.set_cons_succ, List.set_cons_zero]
      refine wpAnyH_ready (rs := [2]) (by kernel_rfl) (by simp) (AllReadyH.cons rfl (fun K hK => ?_) AllReadyH.nil)
      rw [if_pos (by kernel_rfl)]
      have HKX := hideP hK
      clear hK
      go_simp
      refine (CA.out _).mono ?_
      rintro e w2 ⟨rfl, hb4⟩
      replace hS := hS.call hb4
      clear hb4
      refine HKX.out.out _ _ hS (fun hS => ?_)
      clear HKX K
      refine wpAnyH_ready (rs := [5]) (by kernel_rfl) (by simp) (AllReadyH.cons rfl (fun K hK => ?_) AllReadyH.nil)
      rw [if_pos (by kernel_rfl)]
      have HKX := hideP hK
      clear hK
      go_simp
      refine (CB.out _).mono ?_
      rintro e w3 ⟨rfl, hb4⟩
      replace hS := hS.call hb4
      clear hb4
      refine HKX.out.out _ _ hS (fun hS => ?_)
      clear HKX K
      refine wpAnyH_takeL (i := 6) (v := ?_) rfl (by kernel_rfl) (by kernel_rfl) (by kernel_rfl) (fun _ _ _ h => h) (Or.inl ⟨by kernel_rfl, ?_⟩) hS ?_
      rotate_left
      · intro V hV
        go_simp
        (try with_reducible rfl)
      simp only [put_list, List.set_cons_succ, List.set_cons_zero]
      refine wpAnyH_takeL (i := 7) (v := ?_) rfl (by kernel_rfl) (by kernel_rfl) (by kernel_rfl) (fun _ _ _ h => h) (Or.inl ⟨by kernel_rfl, ?_⟩) hS ?_
      rotate_left
      · intro V hV
        go_simp
        (try with_reducible rfl)
      simp only [put_list, List.set_cons_succ, List.set_cons_zero]
      refine wpAnyH_done (by kernel_rfl) ?_ _
      have HI3 := hideP hS
      clear hS CA CB
      have la := LA.out
      have lb := LB.out
      rcases (show av = 0 ∨ av = 1 by omega) with ha | ha <;> rcases (show bv = 0 ∨ bv = 1 by omega) with hb | hb <;> subst ha hb <;> clear la lb LA LB
      · have hbc : bt F k = 0 := by rw [HG.out]
        have cS := fun W => setBit_any (F % 2 ^ k) k (bt F k) (Nat.mod_lt _ (Nat.pow_pos (by decide))) HN.out (bt_le _ _) W
        rw [← mod_bit, hbc] at cS
        simp only [wv_c4] at cS
        have CS := hideP cS
        have lo := rangeOf HI3.out.i.o
        clear cS hbc HG
        go_wp2_with (refine wpList_load_mid rfl 23 _ rfl O 0 rfl (c4 (limb (F % 2 ^ k))).toList _ lo under23 rfl size23 ?_)
        refine (CS.out _).mono ?_
        rintro e w4 ⟨rfl, hb4⟩
        have HI4 := hideP (HI3.out.call hb4)
        clear hb4 HI3 lo CS
        go_wp2_with (refine wpList_store_mid rfl 23 _ _ rfl O 0 (c4 (limb (F % 2 ^ (k + 1)))) rfl rfl (there4 HI4.out.i.o) size23 (oneCell4 _) ?_; refine Hid.out ?_)
        refine hideP ?_
        have HI5 := hideP (HI4.out.put (F % 2 ^ (k + 1)))
        clear HI4
        (try simp only [put_none])
        generalize w4.setCells O 0 (c4 (limb (F % 2 ^ (k + 1)))).toList = w5 at HI5 ⊢
        go_wp2_with fail
        refine ⟨⟨k + 1, HN.out, by go_num, HI5.out⟩, by have := HN.out; simp [intOf]; omega⟩
      · have hbc : bt F k = 1 := by rw [HG.out]
        have cS := fun W => setBit_any (F % 2 ^ k) k (bt F k) (Nat.mod_lt _ (Nat.pow_pos (by decide))) HN.out (bt_le _ _) W
        rw [← mod_bit, hbc] at cS
        simp only [wv_c4] at cS
        have CS := hideP cS
        have lo := rangeOf HI3.out.i.o
        clear cS hbc HG
        go_wp2_with (refine wpList_load_mid rfl 23 _ rfl O 0 rfl (c4 (limb (F % 2 ^ k))).toList _ lo under23 rfl size23 ?_)
        refine (CS.out _).mono ?_
        rintro e w4 ⟨rfl, hb4⟩
        have HI4 := hideP (HI3.out.call hb4)
        clear hb4 HI3 lo CS
        go_wp2_with (refine wpList_store_mid rfl 23 _ _ rfl O 0 (c4 (limb (F % 2 ^ (k + 1)))) rfl rfl (there4 HI4.out.i.o) size23 (oneCell4 _) ?_; refine Hid.out ?_)
        refine hideP ?_
        have HI5 := hideP (HI4.out.put (F % 2 ^ (k + 1)))
        clear HI4
        (try simp only [put_none])
        generalize w4.setCells O 0 (c4 (limb (F % 2 ^ (k + 1)))).toList = w5 at HI5 ⊢
        go_wp2_with fail
        refine ⟨⟨k + 1, HN.out, by go_num, HI5.out⟩, by have := HN.out; simp [intOf]; omega⟩
      · have hbc : bt F k = 1 := by rw [HG.out]
        have cS := fun W => setBit_any (F % 2 ^ k) k (bt F k) (Nat.mod_lt _ (Nat.pow_pos (by decide))) HN.out (bt_le _ _) W
        rw [← mod_bit, hbc] at cS
        simp only [wv_c4] at cS
        have CS := hideP cS
        have lo := rangeOf HI3.out.i.o
        clear cS hbc HG
        go_wp2_with (refine wpList_load_mid rfl 23 _ rfl O 0 rfl (c4 (limb (F % 2 ^ k))).toList _ lo under23 rfl size23 ?_)
        refine (CS.out _).mono ?_
        rintro e w4 ⟨rfl, hb4⟩
        have HI4 := hideP (HI3.out.call hb4)
        clear hb4 HI3 lo CS
        go_wp2_with (refine wpList_store_mid rfl 23 _ _ rfl O 0 (c4 (limb (F % 2 ^ (k + 1)))) rfl rfl (there4 HI4.out.i.o) size23 (oneCell4 _) ?_; refine Hid.out ?_)
        refine hideP ?_
        have HI5 := hideP (HI4.out.put (F % 2 ^ (k + 1)))
        clear HI4
        (try simp only [put_none])
        generalize w4.setCells O 0 (c4 (limb (F % 2 ^ (k + 1)))).toList = w5 at HI5 ⊢
        go_wp2_with fail
        refine ⟨⟨k + 1, HN.out, by go_num, HI5.out⟩, by have := HN.out; simp [intOf]; omega⟩
      · have hbc : bt F k = 0 := by rw [HG.out]
        have cS := fun W => setBit_any (F % 2 ^ k) k (bt F k) (Nat.mod_lt _ (Nat.pow_pos (by decide))) HN.out (bt_le _ _) W
        rw [← mod_bit, hbc] at cS
        simp only [wv_c4] at cS
        have CS := hideP cS
        have lo := rangeOf HI3.out.i.o
        clear cS hbc HG
        go_wp2_with (refine wpList_load_mid rfl 23 _ rfl O 0 rfl (c4 (limb (F % 2 ^ k))).toList _ lo under23 rfl size23 ?_)
        refine (CS.out _).mono ?_
        rintro e w4 ⟨rfl, hb4⟩
        have HI4 := hideP (HI3.out.call hb4)
        clear hb4 HI3 lo CS
        go_wp2_with (refine wpList_store_mid rfl 23 _ _ rfl O 0 (c4 (limb (F % 2 ^ (k + 1)))) rfl rfl (there4 HI4.out.i.o) size23 (oneCell4 _) ?_; refine Hid.out ?_)
        refine hideP ?_
        have HI5 := hideP (HI4.out.put (F % 2 ^ (k + 1)))
        clear HI4
        (try simp only [put_none])
        generalize w4.setCells O 0 (c4 (limb (F % 2 ^ (k + 1)))).toList = w5 at HI5 ⊢
        go_wp2_with fail
        refine ⟨⟨k + 1, HN.out, by go_num, HI5.out⟩, by have := HN.out; simp [intOf]; omega⟩
    · have hk6 : k = 256 := by omega
      subst hk6
      have g1 : ¬ ((256 : Nat) : Int) < 256 := by decide
      clear hlt hk
      go_wp2_with fail
      refine HK.out _ _ ?_
      refine endRow (C := c4 (limb (F % 2 ^ 256))) rfl rfl rfl (by decide) (by show 44 < 45; decide) rfl under23 rfl size23 (oneCell4 _) (rangeOf HI.out.i.o) (there4 HI.out.i.r) ?_
      intro wS h
      exact ⟨by rw [← HRES.out, ← wv_c4, wv_two], HI.out.i.b.trans (h.below.mono (by omega))⟩

end Go.Proofs.Ytpnijncoldihfaa
