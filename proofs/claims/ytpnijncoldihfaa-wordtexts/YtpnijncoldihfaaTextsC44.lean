/-
  Texts are the document's: the walk of the law.
-/
import Derived.Test.YtpnijncoldihfaaTextsC43
import Derived.Test.YtpnijncoldihfaaTextsC22
import Derived.Test.YtpnijncoldihfaaTextsC38
import Derived.Test.YtpnijncoldihfaaTextsC20
namespace Go.Proofs.Ytpnijncoldihfaa
open Go.RowKit Go.Shelf

theorem hexS_iff (s : ByteArray) : hexS s = true ↔ 2 ≤ s.size ∧ sb s 0 = 48 ∧ sb s 1 = 120 := by
  unfold hexS
  by_cases h : 2 ≤ s.size
  · rw [decide_eq_true h, Bool.true_and, beq_iff_eq, ByteArray.toList_eq, ByteArray.data_extract]
    have h' : 2 ≤ s.data.size := h
    have e : (s.data.extract 0 2).toList = [s.data[0], s.data[1]] := by
      apply List.ext_getElem?
      intro i
      match i with
      | 0 => simp
      | 1 => simp
      | i + 2 => simp <;> omega
    rw [e]
    unfold sb
    rw [Array.getElem?_eq_getElem (by omega), Array.getElem?_eq_getElem (by omega)]
    simp only [List.cons.injEq, and_true, Option.getD_some]
    constructor
    · rintro ⟨h0, h1⟩
      rw [h0, h1]
      exact ⟨h, rfl, rfl⟩
    · rintro ⟨_, h0, h1⟩
      exact ⟨UInt8.toNat_inj.1 h0, UInt8.toNat_inj.1 h1⟩
  · rw [decide_eq_false h, Bool.false_and]
    constructor
    · intro h'; cases h'
    · rintro ⟨h', _⟩; exact absurd h' h

theorem digV_zero {c : Nat} (h : digV c = 0) : c = 48 := by
  unfold digV at h
  split at h
  · omega
  · split at h
    · omega
    · split at h <;> omega

theorem pre_big {s : Nat → Nat} (h0 : s 0 ≠ 48) : ∀ {k v : Nat}, pre 10 s (k + 1) = some v → 10 ^ k ≤ v
  | 0, v, h => by
    by_cases hg : digV (s 0) < 10 ∧ 0 * 10 + digV (s 0) < M256
    · have h1 := pre_good (b := 10) (s := s) (k := 0) (v := 0) rfl hg
      have h2 : some v = some (0 * 10 + digV (s 0)) := h.symm.trans h1
      have h3 : v = 0 * 10 + digV (s 0) := Option.some.inj h2
      have h4 : digV (s 0) ≠ 0 := fun e => h0 (digV_zero e)
      rw [Nat.pow_zero]
      omega
    · have h1 := pre_bad (b := 10) (s := s) (k := 0) (v := 0) rfl hg
      have h2 : some v = none := h.symm.trans h1
      cases h2
  | k + 1, v, h => by
    cases hk : pre 10 s (k + 1) with
    | none => rw [pre_none hk (k + 1 + 1) (by omega)] at h; cases h
    | some u =>
      have ih := pre_big h0 hk
      by_cases hg : digV (s (k + 1)) < 10 ∧ u * 10 + digV (s (k + 1)) < M256
      · rw [pre_good hk hg] at h
        cases h
        rw [Nat.pow_succ]
        omega
      · rw [pre_bad hk hg] at h
        cases h

theorem long_dec {s : Nat → Nat} {n : Nat} (h0 : s 0 ≠ 48) (hn : 78 < n) : pre 10 s n = none := by
  obtain ⟨k, rfl⟩ : ∃ k, n = k + 1 := ⟨n - 1, by omega⟩
  cases h : pre 10 s (k + 1) with
  | none => rfl
  | some v =>
    have h1 := pre_big h0 h
    have h2 := pre_lt h
    have h3 : 10 ^ 78 ≤ 10 ^ k := Nat.pow_le_pow_right (by decide) (by omega)
    have h4 : M256 ≤ 10 ^ 78 := by decide
    omega

theorem refParse_any (s : ByteArray) (w : World) : Calls Try.prog 75 #[.string s] w fun e w' => e = .returned (pans s) ∧ Below w.heap.size w w' := by
  unfold pans
  by_cases h80 : 80 < s.size
  · rw [if_pos h80]
    exact refParse_long s h80 w
  · rw [if_neg h80]
    unfold ptext
    by_cases hx : hexS s = true
    · obtain ⟨h2, h0, h1⟩ := (hexS_iff s).1 hx
      rw [if_pos hx]
      by_cases h64 : 64 < (restS s).size
      · rw [if_pos h64]
        exact refParse_hex0 s h80 h2 h0 h1 (Or.inr h64) w
      · rw [if_neg h64]
        unfold preads
        by_cases hz : (restS s).size = 0
        · rw [if_pos hz]
          exact refParse_hex0 s h80 h2 h0 h1 (Or.inl hz) w
        · rw [if_neg hz]
          exact refParse_hex1 s h80 h2 h0 h1 hz h64 w
    · rw [if_neg hx]
      by_cases hd : 1 < s.size ∧ sb s 0 = 48
      · rw [if_pos hd]
        exact refParse_zero s h80 hd.1 hd.2 (fun e => hx ((hexS_iff s).2 ⟨hd.1, hd.2, e⟩)) w
      · rw [if_neg hd]
        unfold preads
        by_cases hz : s.size = 0
        · rw [if_pos hz]
          exact refParse_dec0a s hz w
        · rw [if_neg hz]
          by_cases h1 : s.size = 1
          · exact refParse_dec1a s h1 w
          · have hc : sb s 0 ≠ 48 := fun e => hd ⟨by omega, e⟩
            by_cases h78 : 78 < s.size
            · rw [long_dec hc h78]
              exact refParse_dec0b s h80 (by omega) hc h78 w
            · exact refParse_dec1b s h80 (by omega) hc h78 w

theorem pans_form (s : ByteArray) : ∃ (r : Nat) (i : Int), pans s = .tuple #[wv r, .int .i64 i] := by
  unfold pans
  by_cases h : 80 < s.size
  · rw [if_pos h]; exact ⟨0, 2, rfl⟩
  · rw [if_neg h]
    cases ptext s with
    | none => exact ⟨0, 20, rfl⟩
    | some v => exact ⟨v, 0, rfl⟩

set_option maxHeartbeats 16000000 in
set_option maxRecDepth 100000 in
theorem wtexts_calls (X : Nat) (s : ByteArray) (hX : X < M256) (hs : s.size ≤ 140737488355328) (w : World) : Calls Try.prog 8 #[wv X, .string s] w fun e w' => e = .returned (.bool true) ∧ Below w.heap.size w w' := by
  have p1 := fun W => parse_any s hs W
  have p2 := fun W => refParse_any s W
  obtain ⟨R, i, hp⟩ := pans_form s
  have ch := fun W => hex_any X hX W
  have crh := fun W => refHex_any X hX W
  have cd := fun W => dec_any X hX W
  have crd := fun W => refDec_any X hX W
  have sm := fun W => same_any R W
  obtain ⟨x0, x1, x2, x3, hx⟩ := wv_form X
  obtain ⟨r0, r1, r2, r3, hr⟩ := wv_form R
  simp only [hx] at ch crh cd crd ⊢
  simp only [hp, hr] at p1 p2
  simp only [hr] at sm
  have P1 := hideP p1
  have P2 := hideP p2
  have CH := hideP ch
  have CRH := hideP crh
  have CD := hideP cd
  have CRD := hideP crd
  have CSM := hideP sm
  have CAW := hideP (fun W => awake_any W)
  clear p1 p2 ch crh cd crd sm hp hx hr hX hs
  go_enter Try.func8, Try.ntmps8
  go_wp2_with fail
  refine at_world_q (fun W1 hW1 => ?_)
  have HBx : W1.heap[w.heap.size]? = some (.cells #[.int .u64 x0, .int .u64 x1, .int .u64 x2, .int .u64 x3] 24 (0, 0)) := by
    rw [hW1]; simp only [World.alloc, Array.getElem?_push]; simp
  have HBW : Hid (Below w.heap.size w W1) := by
    show Below _ _ _
    rw [hW1]
    repeat first | exact Below.refl _ _ | (refine Below.alloc ?_ (by simp <;> omega) _)
  clear hW1
  refine (P1.out _).mono ?_
  rintro e V1 ⟨rfl, hb⟩
  replace HBx := (hb.block _ (lt_of_block HBx)).trans HBx
  replace HBW := hideP (HBW.out.trans (hb.mono HBW.out.size))
  clear hb P1
  go_wp2_with fail
  refine at_world_q (fun V2 hV => ?_)
  have HBr : V2.heap[V1.heap.size]? = some (.cells #[.int .u64 r0, .int .u64 r1, .int .u64 r2, .int .u64 r3] 24 (0, 0)) := by
    rw [hV]; exact heap_new _ _
  have hb : Below V1.heap.size V1 V2 := by
    rw [hV]; exact (Below.refl _ _).alloc (Nat.le_refl _) _
  clear hV
  replace HBx := (hb.block _ (lt_of_block HBx)).trans HBx
  replace HBW := hideP (HBW.out.trans (hb.mono HBW.out.size))
  clear hb
  generalize V1.heap.size = VR at HBr ⊢
  refine (P2.out _).mono ?_
  rintro e V3 ⟨rfl, hb⟩
  replace HBx := (hb.block _ (lt_of_block HBx)).trans HBx
  replace HBr := (hb.block _ (lt_of_block HBr)).trans HBr
  replace HBW := hideP (HBW.out.trans (hb.mono HBW.out.size))
  clear hb P2
  go_wp2_with fail
  refine at_world_t (fun W0 hV => ?_)
  have HBs : W0.heap[V3.heap.size]? = some (.cells #[.int .u64 r0, .int .u64 r1, .int .u64 r2, .int .u64 r3] 23 (0, 0)) := by
    rw [hV]; exact heap_new _ _
  have hb : Below V3.heap.size V3 W0 := by
    rw [hV]; exact (Below.refl _ _).alloc (Nat.le_refl _) _
  clear hV
  replace HBx := (hb.block _ (lt_of_block HBx)).trans HBx
  replace HBr := (hb.block _ (lt_of_block HBr)).trans HBr
  replace HBW := hideP (HBW.out.trans (hb.mono HBW.out.size))
  clear hb
  generalize V3.heap.size = VS at HBs ⊢
  obtain ⟨cx0, cx1, cx2, cx3⟩ := cells4 HBx
  obtain ⟨cr0, cr1, cr2, cr3⟩ := cells4 HBr
  obtain ⟨cs0, cs1, cs2, cs3⟩ := cells4 HBs
  have hlx := lt_of_block HBx
  have hlr := lt_of_block HBr
  have hls := lt_of_block HBs
  clear HBx HBr HBs
  refine wp_region_heldS (S := fun V => Below W0.heap.size W0 V) (by kernel_rfl) (Below.refl _ _).drew (fun hS => ?_)
  refine wpAnyH_takeL (i := 0) (v := ?_) rfl (by kernel_rfl) (by kernel_rfl) (by kernel_rfl) (fun _ _ _ h => h) (Or.inl ⟨by kernel_rfl, ?_⟩) hS ?_
  rotate_left
  · intro V hV
    have k0 := (hV.cell (p := ⟨w.heap.size, 0, none⟩) hlx).trans cx0
    have k1 := (hV.cell (p := ⟨w.heap.size, 1, none⟩) hlx).trans cx1
    have k2 := (hV.cell (p := ⟨w.heap.size, 2, none⟩) hlx).trans cx2
    have k3 := (hV.cell (p := ⟨w.heap.size, 3, none⟩) hlx).trans cx3
    go_simp
    (try with_reducible rfl)
  simp only [put_list, List.set_cons_succ, List.set_cons_zero]
  refine wpAnyH_takeL (i := 2) (v := ?_) rfl (by kernel_rfl) (by kernel_rfl) (by kernel_rfl) (fun _ _ _ h => h) (Or.inl ⟨by kernel_rfl, ?_⟩) hS ?_
  rotate_left
  · intro V hV
    have k0 := (hV.cell (p := ⟨w.heap.size, 0, none⟩) hlx).trans cx0
    have k1 := (hV.cell (p := ⟨w.heap.size, 1, none⟩) hlx).trans cx1
    have k2 := (hV.cell (p := ⟨w.heap.size, 2, none⟩) hlx).trans cx2
    have k3 := (hV.cell (p := ⟨w.heap.size, 3, none⟩) hlx).trans cx3
    go_simp
    (try with_reducible rfl)
  simp only [put_list, List.set_cons_succ, List.set_cons_zero]
  refine wpAnyH_ready (rs := [1]) (by kernel_rfl) (by simp) (AllReadyH.cons rfl (fun K hK => ?_) AllReadyH.nil)
  go_simp
  refine (CH.out _).mono ?_
  rintro e U1 ⟨⟨n1, hn1, rfl⟩, hbc⟩
  refine hK.out _ _ (hS.trans (hbc.mono hS.size)) (fun hS => ?_)
  clear hK K hbc
  refine wpAnyH_ready (rs := [3]) (by kernel_rfl) (by simp) (AllReadyH.cons rfl (fun K hK => ?_) AllReadyH.nil)
  go_simp
  refine (CRH.out _).mono ?_
  rintro e U2 ⟨⟨n2, hn2, rfl⟩, hbc⟩
  obtain rfl := ND.uniq (by decide) hn1 hn2
  refine hK.out _ _ (hS.trans (hbc.mono hS.size)) (fun hS => ?_)
  clear hK K hbc
  refine wpAnyH_takeL (i := 4) (v := ?_) rfl (by kernel_rfl) (by kernel_rfl) (by kernel_rfl) (fun _ _ _ h => h) (Or.inl ⟨by kernel_rfl, ?_⟩) hS ?_
  rotate_left
  · intro V hV
    go_simp
    (try with_reducible rfl)
  simp only [put_list, List.set_cons_succ, List.set_cons_zero]
  refine wpAnyH_takeL (i := 5) (v := ?_) rfl (by kernel_rfl) (by kernel_rfl) (by kernel_rfl) (fun _ _ _ h => h) (Or.inl ⟨by kernel_rfl, ?_⟩) hS ?_
  rotate_left
  · intro V hV
    go_simp
    (try with_reducible rfl)
  simp only [put_list, List.set_cons_succ, List.set_cons_zero]
  refine wpAnyH_takeL (i := 6) (v := ?_) rfl (by kernel_rfl) (by kernel_rfl) (by kernel_rfl) (fun _ _ _ h => h) (Or.inl ⟨by kernel_rfl, ?_⟩) hS ?_
  rotate_left
  · intro V hV
    have k0 := (hV.cell (p := ⟨w.heap.size, 0, none⟩) hlx).trans cx0
    have k1 := (hV.cell (p := ⟨w.heap.size, 1, none⟩) hlx).trans cx1
    have k2 := (hV.cell (p := ⟨w.heap.size, 2, none⟩) hlx).trans cx2
    have k3 := (hV.cell (p := ⟨w.heap.size, 3, none⟩) hlx).trans cx3
    go_simp
    (try with_reducible rfl)
  simp only [put_list, List.set_cons_succ, List.set_cons_zero]
  as_aux_lemma =>
    refine wpAnyH_takeL (i := 8) (v := ?_) rfl (by kernel_rfl) (by kernel_rfl) (by kernel_rfl) (fun _ _ _ h => h) (Or.inl ⟨by kernel_rfl, ?_⟩) hS ?_
    rotate_left
    · intro V hV
      have k0 := (hV.cell (p := ⟨w.heap.size, 0, none⟩) hlx).trans cx0
      have k1 := (hV.cell (p := ⟨w.heap.size, 1, none⟩) hlx).trans cx1
      have k2 := (hV.cell (p := ⟨w.heap.size, 2, none⟩) hlx).trans cx2
      have k3 := (hV.cell (p := ⟨w.heap.size, 3, none⟩) hlx).trans cx3
      go_simp
      (try with_reducible rfl)
    simp only [put_list, List.set_cons_succ, List.set_cons_zero]
    refine wpAnyH_ready (rs := [7]) (by kernel_rfl) (by simp) (AllReadyH.cons rfl (fun K hK => ?_) AllReadyH.nil)
    go_simp
    refine (CD.out _).mono ?_
    rintro e U3 ⟨⟨n3, hm3, hn3, rfl⟩, hbc⟩
    refine hK.out _ _ (hS.trans (hbc.mono hS.size)) (fun hS => ?_)
    clear hK K hbc
    refine wpAnyH_ready (rs := [9]) (by kernel_rfl) (by simp) (AllReadyH.cons rfl (fun K hK => ?_) AllReadyH.nil)
    go_simp
    refine (CRD.out _).mono ?_
    rintro e U4 ⟨⟨n4, hm4, hn4, rfl⟩, hbc⟩
    obtain rfl := ND.uniq (by decide) hn3 hn4
    refine hK.out _ _ (hS.trans (hbc.mono hS.size)) (fun hS => ?_)
    clear hK K hbc
    refine wpAnyH_takeL (i := 10) (v := ?_) rfl (by kernel_rfl) (by kernel_rfl) (by kernel_rfl) (fun _ _ _ h => h) (Or.inl ⟨by kernel_rfl, ?_⟩) hS ?_
    rotate_left
    · intro V hV
      go_simp
      (try with_reducible rfl)
    simp only [put_list, List.set_cons_succ, List.set_cons_zero]
    refine wpAnyH_takeL (i := 11) (v := ?_) rfl (by kernel_rfl) (by kernel_rfl) (by kernel_rfl) (fun _ _ _ h => h) (Or.inl ⟨by kernel_rfl, ?_⟩) hS ?_
    rotate_left
    · intro V hV
      go_simp
      (try with_reducible rfl)
    simp only [put_list, List.set_cons_succ, List.set_cons_zero]
    refine wpAnyH_takeL (i := 12) (v := ?_) rfl (by kernel_rfl) (by kernel_rfl) (by kernel_rfl) (fun _ _ _ h => h) (Or.inl ⟨by kernel_rfl, ?_⟩) hS ?_
    rotate_left
    · intro V hV
      go_simp
      (try with_reducible rfl)
    simp only [put_list, List.set_cons_succ, List.set_cons_zero]
    refine wpAnyH_takeL (i := 13) (v := ?_) rfl (by kernel_rfl) (by kernel_rfl) (by kernel_rfl) (fun _ _ _ h => h) (Or.inl ⟨by kernel_rfl, ?_⟩) hS ?_
    rotate_left
    · intro V hV
      have k0 := (hV.cell (p := ⟨VR, 0, none⟩) hlr).trans cr0
      have k1 := (hV.cell (p := ⟨VR, 1, none⟩) hlr).trans cr1
      have k2 := (hV.cell (p := ⟨VR, 2, none⟩) hlr).trans cr2
      have k3 := (hV.cell (p := ⟨VR, 3, none⟩) hlr).trans cr3
      go_simp
      (try with_reducible rfl)
    simp only [put_list, List.set_cons_succ, List.set_cons_zero]
    refine wpAnyH_takeL (i := 14) (v := ?_) rfl (by kernel_rfl) (by kernel_rfl) (by kernel_rfl) (fun _ _ _ h => h) (Or.inl ⟨by kernel_rfl, ?_⟩) hS ?_
    rotate_left
    · intro V hV
      have k0 := (hV.cell (p := ⟨VS, 0, none⟩) hls).trans cs0
      have k1 := (hV.cell (p := ⟨VS, 1, none⟩) hls).trans cs1
      have k2 := (hV.cell (p := ⟨VS, 2, none⟩) hls).trans cs2
      have k3 := (hV.cell (p := ⟨VS, 3, none⟩) hls).trans cs3
      go_simp
      (try with_reducible rfl)
    simp only [put_list, List.set_cons_succ, List.set_cons_zero]
    as_aux_lemma =>
      refine wpAnyH_ready (rs := [15]) (by kernel_rfl) (by simp) (AllReadyH.cons rfl (fun K hK => ?_) AllReadyH.nil)
      go_simp
      refine (CSM.out _).mono ?_
      rintro e U5 ⟨rfl, hbc⟩
      refine hK.out _ _ (hS.trans (hbc.mono hS.size)) (fun hS => ?_)
      clear hK K hbc
      refine wpAnyH_takeL (i := 16) (v := ?_) rfl (by kernel_rfl) (by kernel_rfl) (by kernel_rfl) (fun _ _ _ h => h) (Or.inl ⟨by kernel_rfl, ?_⟩) hS ?_
      rotate_left
      · intro V hV
        go_simp
        (try with_reducible rfl)
      simp only [put_list, List.set_cons_succ, List.set_cons_zero]
      refine wpAnyH_takeL (i := 17) (v := ?_) rfl (by kernel_rfl) (by kernel_rfl) (by kernel_rfl) (fun _ _ _ h => h) (Or.inl ⟨by kernel_rfl, ?_⟩) hS ?_
      rotate_left
      · intro V hV
        go_simp
        (try with_reducible rfl)
      simp only [put_list, List.set_cons_succ, List.set_cons_zero]
      refine wpAnyH_takeL (i := 18) (v := ?_) rfl (by kernel_rfl) (by kernel_rfl) (by kernel_rfl) (fun _ _ _ h => h) (Or.inl ⟨by kernel_rfl, ?_⟩) hS ?_
      rotate_left
      · intro V hV
        go_simp
        (try with_reducible rfl)
      simp only [put_list, List.set_cons_succ, List.set_cons_zero]
      refine wpAnyH_takeL (i := 19) (v := ?_) rfl (by kernel_rfl) (by kernel_rfl) (by kernel_rfl) (fun _ _ _ h => h) (Or.inl ⟨by kernel_rfl, ?_⟩) hS ?_
      rotate_left
      · intro V hV
        go_simp
        (try with_reducible rfl)
      simp only [put_list, List.set_cons_succ, List.set_cons_zero]
      refine wpAnyH_takeL (i := 20) (v := ?_) rfl (by kernel_rfl) (by kernel_rfl) (by kernel_rfl) (fun _ _ _ h => h) (Or.inl ⟨by kernel_rfl, ?_⟩) hS ?_
      rotate_left
      · intro V hV
        go_simp
        (try with_reducible rfl)
      simp only [put_list, List.set_cons_succ, List.set_cons_zero]
      refine wpAnyH_takeL (i := 21) (v := ?_) rfl (by kernel_rfl) (by kernel_rfl) (by kernel_rfl) (fun _ _ _ h => h) (Or.inl ⟨by kernel_rfl, ?_⟩) hS ?_
      rotate_left
      · intro V hV
        go_simp
        (try with_reducible rfl)
      simp only [put_list, List.set_cons_succ, List.set_cons_zero]
      refine wpAnyH_takeL (i := 22) (v := ?_) rfl (by kernel_rfl) (by kernel_rfl) (by kernel_rfl) (fun _ _ _ h => h) (Or.inl ⟨by kernel_rfl, ?_⟩) hS ?_
      rotate_left
      · intro V hV
        go_simp
        (try with_reducible rfl)
      simp only [put_list, List.set_cons_succ, List.set_cons_zero]
      as_aux_lemma =>
        refine wpAnyH_ready (rs := [23]) (by kernel_rfl) (by simp) (AllReadyH.cons rfl (fun K hK => ?_) AllReadyH.nil)
        go_simp
        refine (CAW.out _).mono ?_
        rintro e U6 ⟨rfl, hbc⟩
        refine hK.out _ _ (hS.trans (hbc.mono hS.size)) (fun hS => ?_)
        clear hK K hbc
        refine wpAnyH_takeL (i := 24) (v := ?_) rfl (by kernel_rfl) (by kernel_rfl) (by kernel_rfl) (fun _ _ _ h => h) (Or.inl ⟨by kernel_rfl, ?_⟩) hS ?_
        rotate_left
        · intro V hV
          go_simp
          (try with_reducible rfl)
        simp only [put_list, List.set_cons_succ, List.set_cons_zero]
        refine wpAnyH_ready (rs := [25]) (by kernel_rfl) (by simp) (AllReadyH.cons rfl (fun K hK => ?_) AllReadyH.nil)
        go_simp
        refine hK.out _ _ hS (fun hS => ?_)
        clear hK K
        refine wpAnyH_done (by kernel_rfl) ?_ _
        go_wp2_with fail
        go_ret
        exact ⟨rfl, HBW.out.trans (hS.mono HBW.out.size)⟩

/-- A text that came in. -/
def SVal (v : Value) : Prop := ∃ s : ByteArray, v = .string s ∧ s.size ≤ 140737488355328

theorem wtexts_law (X : Nat) (v : Value) (w : World) (hv : SVal v) : Calls Try.prog 8 #[wv X, v] w fun e w' => e = .returned (.bool true) ∧ Below w.heap.size w w' := by
  obtain ⟨s, rfl, hs⟩ := hv
  have h := wtexts_calls (X % M256) s (Nat.mod_lt _ M256_pos) hs w
  rw [wv_mod] at h
  exact h

end Go.Proofs.Ytpnijncoldihfaa
