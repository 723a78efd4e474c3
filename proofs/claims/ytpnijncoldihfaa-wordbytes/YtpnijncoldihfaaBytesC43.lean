/-
  Bytes are the document's: the walk of the law.
-/
import Derived.Test.YtpnijncoldihfaaBytesC32
import Derived.Test.YtpnijncoldihfaaBytesC33
import Derived.Test.YtpnijncoldihfaaBytesC36
import Derived.Test.YtpnijncoldihfaaBytesC21
import Derived.Test.YtpnijncoldihfaaBytesC42
import Derived.Test.YtpnijncoldihfaaBytesC20
namespace Go.Proofs.Ytpnijncoldihfaa
open Go.RowKit Go.Shelf

/-- What is held over the rest of a region may become more. -/
theorem wpAnyH_switch {P : Program} {md : Region.Mode} {ops : Array Oper} {Q : Exit → Act → World → Prop} {S S' : World → Prop} (hs : ∀ V, S' V → S V) : ∀ {fuel : Nat} {listed : Array Bool} {a : Act} {w : World}, wpAnyH P md ops Q S' fuel listed a w → wpAnyH P md ops Q S fuel listed a w
  | 0, _, _, _, h => h
  | _ + 1, _, _, _, h => ⟨h.1, fun i hi => wpOp_mono (fun _ _ h' => ⟨hs _ h'.1, wpAnyH_switch hs h'.2⟩) (h.2 i hi)⟩

set_option maxHeartbeats 1000000 in
set_option maxRecDepth 100000 in
theorem eq32 (g : Nat → Nat) (W : World) : (Op.equalIn 10000 52 (.agg (c32 g)) (.agg (c32 g))).run Try.prog W = .ok true W := by
  have h : ∀ x : Int, (Op.equalIn 9999 5 (.int .u8 x) (.int .u8 x)).run Try.prog W = .ok true W := fun x => by
    unfold Op.equalIn
    simp [go_sem]
  unfold Op.equalIn
  simp [go_sem, List.range', c32, h]

/-- The text of so many bytes. -/
def strN (X n : Nat) : ByteArray := ⟨((List.range n).map (fun j => UInt8.ofNat (lowB X n j))).toArray⟩

theorem conv_bytes {U : World} {X n cap g o : Nat} (hgl : g < U.heap.size) (hc : ∀ j, j < n → U.cell? ⟨g, o + j, none⟩ = some (.int .u8 (lowB X n j))) (V : World) (hV : Below U.heap.size U V) :
    (convert 51 9 (.slice (some ⟨g, o, none⟩) n cap)).run Try.prog V = .ok (.string (strN X n)) V := by
  have h := run_convert_bytes_back (P := Try.prog) V 51 9 5 ⟨g, o, none⟩ cap ((List.range n).map (fun j => UInt8.ofNat (lowB X n j))) Try.underlying51 Try.underlying5 Try.underlying9 (fun j hj => by
    have hj' : j < n := by simpa using hj
    rw [Addr.add_mid, hV.cell (p := ⟨g, o + j, none⟩) hgl, hc j hj']
    simp [Nat.mod_eq_of_lt (lowB_lt X n j)])
  simp only [List.length_map, List.length_range] at h
  exact h

/-- A slice of bytes that came in. -/
structure BIn (w : World) (ao : Option Addr) (n cap : Nat) (bs : Nat → Nat) : Prop where
  lt : ∀ j, bs j < 256
  le : n ≤ 140737488355328
  cell : ∀ j, j < n → ∃ ad, ao = some ad ∧ w.cell? (ad.add j) = some (.int .u8 (bs j))
  nil : ao = none → n = 0 ∧ cap = 0

theorem BIn.moved {w w' : World} {ao : Option Addr} {n cap : Nat} {bs : Nat → Nat} (h : BIn w ao n cap bs) (hb : Below w.heap.size w w') : BIn w' ao n cap bs :=
  ⟨h.lt, h.le, fun j hj => by
    obtain ⟨ad, e, hc⟩ := h.cell j hj
    exact ⟨ad, e, (hb.cell (p := ad.add j) (World.block_lt_of_cell? w _ hc)).trans hc⟩, h.nil⟩

theorem refRead_in {w : World} {ao : Option Addr} {n cap : Nat} {bs : Nat → Nat} (h : BIn w ao n cap bs) (hn : n ≤ 32) : Calls Try.prog 73 #[.slice ao n cap] w fun e w' => e = .returned (wv (rdv bs n n)) ∧ Below w.heap.size w w' := by
  cases ao with
  | none =>
    obtain ⟨rfl, rfl⟩ := h.nil rfl
    exact refRead_nil w
  | some ad =>
    refine refRead_any bs h.lt n cap ad hn w (fun j hj => ?_)
    obtain ⟨ad', e, hc⟩ := h.cell j hj
    cases e
    exact hc

set_option maxHeartbeats 16000000 in
set_option maxRecDepth 100000 in
theorem wbytes_calls (X n cap : Nat) (ao : Option Addr) (bs : Nat → Nat) (w : World) (hin : BIn w ao n cap bs) : Calls Try.prog 7 #[wv X, .slice ao n cap] w fun e w' => e = .returned (.bool true) ∧ Below w.heap.size w w' := by
  have HIN := hideP hin
  clear hin
  have b1 := fun W => bytes_any X W
  have b2 := fun W => refBytes_any X W
  have l1 := fun W => least_any X W
  have l2 := fun W => refLeast_any X W
  unfold b32 at b1 b2
  obtain ⟨x0, x1, x2, x3, hx⟩ := wv_form X
  simp only [hx] at b1 b2 l1 l2 ⊢
  have CB1 := hideP b1
  have CB2 := hideP b2
  have CL1 := hideP l1
  have CL2 := hideP l2
  have CAW := hideP (fun W => awake_any W)
  clear b1 b2 l1 l2 hx
  go_enter Try.func7, Try.ntmps7
  go_wp2_with fail
  refine at_world_t (fun W0 hW0 => ?_)
  have HBx : Hid (W0.heap[w.heap.size]? = some (.cells #[.int .u64 x0, .int .u64 x1, .int .u64 x2, .int .u64 x3] 24 (0, 0))) := by
    rw [hW0]; show _ = _; simp only [World.alloc, Array.getElem?_push]; simp
  have HBW : Hid (Below w.heap.size w W0) := by
    show Below _ _ _
    rw [hW0]
    repeat first | exact Below.refl _ _ | (refine Below.alloc ?_ (by simp <;> omega) _)
  clear hW0
  obtain ⟨cx0, cx1, cx2, cx3⟩ := cells4 HBx.out
  have hlx := lt_of_block HBx.out
  clear HBx
  refine wp_region_heldS (S := fun V => Below W0.heap.size W0 V) (by kernel_rfl) (Below.refl _ _).drew (fun hS => ?_)
  refine wpAnyH_takeL (i := 0) (v := ?_) rfl (by kernel_rfl) (by kernel_rfl) (by kernel_rfl) (fun _ _ _ h => h) (Or.inl ⟨by kernel_rfl, ?_⟩) hS ?_
  rotate_left
  · intro V hV
    have k0 := (hV.cell (p := ⟨w.heap.size, 0, none⟩) hlx).trans cx0
    have k1 := (hV.cell (p := ⟨w.heap.size, 1, none⟩) hlx).trans cx1
    have k2 := (hV.cell (p := ⟨w.heap.size, 2, none⟩) hlx).trans cx2
    have k3 := (hV.cell (p := ⟨w.heap.size, 3, none⟩) hlx).trans cx3
    go_simp
    (try with_reducible rfl)
  simp only [put_list, List.set_cons_succ, List.set_cons_zero]
  refine wpAnyH_takeL (i := 2) (v := ?_) rfl (by kernel_rfl) (by kernel_rfl) (by kernel_rfl) (fun _ _ _ h => h) (Or.inl ⟨by kernel_rfl, ?_⟩) hS ?_
  rotate_left
  · intro V hV
    have k0 := (hV.cell (p := ⟨w.heap.size, 0, none⟩) hlx).trans cx0
    have k1 := (hV.cell (p := ⟨w.heap.size, 1, none⟩) hlx).trans cx1
    have k2 := (hV.cell (p := ⟨w.heap.size, 2, none⟩) hlx).trans cx2
    have k3 := (hV.cell (p := ⟨w.heap.size, 3, none⟩) hlx).trans cx3
    go_simp
    (try with_reducible rfl)
  simp only [put_list, List.set_cons_succ, List.set_cons_zero]
  refine wpAnyH_ready (rs := [1]) (by kernel_rfl) (by simp) (AllReadyH.cons rfl (fun K hK => ?_) AllReadyH.nil)
  go_simp
  refine (CB1.out _).mono ?_
  rintro e U1 ⟨rfl, hbc⟩
  refine hK.out _ _ (hS.trans (hbc.mono hS.size)) (fun hS => ?_)
  clear hK K hbc
  refine wpAnyH_ready (rs := [3]) (by kernel_rfl) (by simp) (AllReadyH.cons rfl (fun K hK => ?_) AllReadyH.nil)
  go_simp
  refine (CB2.out _).mono ?_
  rintro e U2 ⟨rfl, hbc⟩
  refine hK.out _ _ (hS.trans (hbc.mono hS.size)) (fun hS => ?_)
  clear hK K hbc
  refine wpAnyH_takeL (i := 4) (v := ?_) rfl (by kernel_rfl) (by kernel_rfl) (by kernel_rfl) (fun _ _ _ h => h) (Or.inl ⟨by kernel_rfl, ?_⟩) hS ?_
  rotate_left
  · intro V hV
    have he32 := eq32 (fun j => byt X (31 - j)) V
    go_simp
    (try with_reducible rfl)
  simp only [put_list, List.set_cons_succ, List.set_cons_zero]
  refine wpAnyH_takeL (i := 5) (v := ?_) rfl (by kernel_rfl) (by kernel_rfl) (by kernel_rfl) (fun _ _ _ h => h) (Or.inl ⟨by kernel_rfl, ?_⟩) hS ?_
  rotate_left
  · intro V hV
    go_simp
    (try with_reducible rfl)
  simp only [put_list, List.set_cons_succ, List.set_cons_zero]
  refine wpAnyH_takeL (i := 6) (v := ?_) rfl (by kernel_rfl) (by kernel_rfl) (by kernel_rfl) (fun _ _ _ h => h) (Or.inl ⟨by kernel_rfl, ?_⟩) hS ?_
  rotate_left
  · intro V hV
    have k0 := (hV.cell (p := ⟨w.heap.size, 0, none⟩) hlx).trans cx0
    have k1 := (hV.cell (p := ⟨w.heap.size, 1, none⟩) hlx).trans cx1
    have k2 := (hV.cell (p := ⟨w.heap.size, 2, none⟩) hlx).trans cx2
    have k3 := (hV.cell (p := ⟨w.heap.size, 3, none⟩) hlx).trans cx3
    go_simp
    (try with_reducible rfl)
  simp only [put_list, List.set_cons_succ, List.set_cons_zero]
  as_aux_lemma =>
    refine wpAnyH_takeL (i := 9) (v := ?_) rfl (by kernel_rfl) (by kernel_rfl) (by kernel_rfl) (fun _ _ _ h => h) (Or.inl ⟨by kernel_rfl, ?_⟩) hS ?_
    rotate_left
    · intro V hV
      have k0 := (hV.cell (p := ⟨w.heap.size, 0, none⟩) hlx).trans cx0
      have k1 := (hV.cell (p := ⟨w.heap.size, 1, none⟩) hlx).trans cx1
      have k2 := (hV.cell (p := ⟨w.heap.size, 2, none⟩) hlx).trans cx2
      have k3 := (hV.cell (p := ⟨w.heap.size, 3, none⟩) hlx).trans cx3
      go_simp
      (try with_reducible rfl)
    simp only [put_list, List.set_cons_succ, List.set_cons_zero]
    refine wpAnyH_ready (rs := [7]) (by kernel_rfl) (by simp) (AllReadyH.cons rfl (fun K hK => ?_) AllReadyH.nil)
    go_simp
    refine (CL1.out _).mono ?_
    rintro e U3 ⟨⟨v1, rfl, hv1⟩, hbc⟩
    obtain ⟨n1, cap1, g1, o1, rfl, hn1, hg1, hc1⟩ := hv1.ex
    clear hv1
    refine hK.out _ _ (hS.trans (hbc.mono hS.size)) (fun hS => ?_)
    clear hK K hbc
    refine wpAnyH_switch (S' := fun V => Below U3.heap.size U3 V) (fun V hV => hS.trans (hV.mono hS.size)) ?_
    replace cx0 := (hS.cell (p := ⟨w.heap.size, 0, none⟩) hlx).trans cx0
    replace cx1 := (hS.cell (p := ⟨w.heap.size, 1, none⟩) hlx).trans cx1
    replace cx2 := (hS.cell (p := ⟨w.heap.size, 2, none⟩) hlx).trans cx2
    replace cx3 := (hS.cell (p := ⟨w.heap.size, 3, none⟩) hlx).trans cx3
    replace hlx := Nat.lt_of_lt_of_le hlx hS.size
    replace HBW := hideP (HBW.out.trans (hS.mono HBW.out.size))
    have HS1 := hideP hS
    clear hS
    have hS : Below U3.heap.size U3 U3 := Below.refl _ _
    refine wpAnyH_takeL (i := 8) (v := ?_) rfl (by kernel_rfl) (by kernel_rfl) (by kernel_rfl) (fun _ _ _ h => h) (Or.inl ⟨by kernel_rfl, ?_⟩) hS ?_
    rotate_left
    · intro V hV
      have hcv := conv_bytes (cap := cap1) hg1 hc1 V hV
      go_simp
      (try with_reducible rfl)
    simp only [put_list, List.set_cons_succ, List.set_cons_zero]
    refine wpAnyH_ready (rs := [10]) (by kernel_rfl) (by simp) (AllReadyH.cons rfl (fun K hK => ?_) AllReadyH.nil)
    go_simp
    refine (CL2.out _).mono ?_
    rintro e U4 ⟨⟨v2, rfl, hv2⟩, hbc⟩
    obtain ⟨n2, cap2, g2, o2, rfl, hn2, hg2, hc2⟩ := hv2.ex
    clear hv2
    obtain rfl := hn1.uniq hn2
    refine hK.out _ _ (hS.trans (hbc.mono hS.size)) (fun hS => ?_)
    clear hK K hbc
    refine wpAnyH_switch (S' := fun V => Below U4.heap.size U4 V) (fun V hV => hS.trans (hV.mono hS.size)) ?_
    replace cx0 := (hS.cell (p := ⟨w.heap.size, 0, none⟩) hlx).trans cx0
    replace cx1 := (hS.cell (p := ⟨w.heap.size, 1, none⟩) hlx).trans cx1
    replace cx2 := (hS.cell (p := ⟨w.heap.size, 2, none⟩) hlx).trans cx2
    replace cx3 := (hS.cell (p := ⟨w.heap.size, 3, none⟩) hlx).trans cx3
    replace hlx := Nat.lt_of_lt_of_le hlx hS.size
    replace HBW := hideP (HBW.out.trans (hS.mono HBW.out.size))
    have HS2 := hideP hS
    clear hS
    have hS : Below U4.heap.size U4 U4 := Below.refl _ _
    refine wpAnyH_takeL (i := 11) (v := ?_) rfl (by kernel_rfl) (by kernel_rfl) (by kernel_rfl) (fun _ _ _ h => h) (Or.inl ⟨by kernel_rfl, ?_⟩) hS ?_
    rotate_left
    · intro V hV
      have hcv := conv_bytes (cap := cap2) hg2 hc2 V hV
      go_simp
      (try with_reducible rfl)
    simp only [put_list, List.set_cons_succ, List.set_cons_zero]
    refine wpAnyH_takeL (i := 12) (v := ?_) rfl (by kernel_rfl) (by kernel_rfl) (by kernel_rfl) (fun _ _ _ h => h) (Or.inl ⟨by kernel_rfl, ?_⟩) hS ?_
    rotate_left
    · intro V hV
      go_simp
      (try with_reducible rfl)
    simp only [put_list, List.set_cons_succ, List.set_cons_zero]
    refine wpAnyH_takeL (i := 13) (v := ?_) rfl (by kernel_rfl) (by kernel_rfl) (by kernel_rfl) (fun _ _ _ h => h) (Or.inl ⟨by kernel_rfl, ?_⟩) hS ?_
    rotate_left
    · intro V hV
      go_simp
      (try with_reducible rfl)
    simp only [put_list, List.set_cons_succ, List.set_cons_zero]
    refine wpAnyH_takeL (i := 14) (v := ?_) rfl (by kernel_rfl) (by kernel_rfl) (by kernel_rfl) (fun _ _ _ h => h) (Or.inl ⟨by kernel_rfl, ?_⟩) hS ?_
    rotate_left
    · intro V hV
      go_simp
      (try with_reducible rfl)
    simp only [put_list, List.set_cons_succ, List.set_cons_zero]
    as_aux_lemma =>
      refine wpAnyH_ready (rs := [15]) (by kernel_rfl) (by simp) (AllReadyH.cons rfl (fun K hK => ?_) AllReadyH.nil)
      go_simp
      refine (CAW.out _).mono ?_
      rintro e U5 ⟨rfl, hbc⟩
      refine hK.out _ _ (hS.trans (hbc.mono hS.size)) (fun hS => ?_)
      clear hK K hbc
      refine wpAnyH_takeL (i := 16) (v := ?_) rfl (by kernel_rfl) (by kernel_rfl) (by kernel_rfl) (fun _ _ _ h => h) (Or.inl ⟨by kernel_rfl, ?_⟩) hS ?_
      rotate_left
      · intro V hV
        go_simp
        (try with_reducible rfl)
      simp only [put_list, List.set_cons_succ, List.set_cons_zero]
      refine wpAnyH_takeL (i := 17) (v := ?_) rfl (by kernel_rfl) (by kernel_rfl) (by kernel_rfl) (fun _ _ _ h => h) (Or.inl ⟨by kernel_rfl, ?_⟩) hS ?_
      rotate_left
      · intro V hV
        go_simp
        (try with_reducible rfl)
      simp only [put_list, List.set_cons_succ, List.set_cons_zero]
      refine wpAnyH_done (by kernel_rfl) ?_ _
      as_aux_lemma =>
        replace HBW := hideP (HBW.out.trans (hS.mono HBW.out.size))
        clear cx0 cx1 cx2 cx3 hlx hS CB1 CB2 CL1 CL2 CAW HS1 HS2 hg1 hg2 hc1 hc2 hn1 hn2
        have HIN5 := hideP (HIN.out.moved HBW.out)
        go_wp2_with (at_builtin; refine wpList_append_fresh rfl _ _ rfl U5.heap.size ao n cap rfl rfl (by simp) HIN.out.le bs ?c1 ?c2 ?_)
        case c1 => exact (HIN5.out.moved ((Below.refl _ _).alloc (Nat.le_refl _) _)).cell
        case c2 => exact fun _ h => (HIN.out.nil h).2
        intro g cp V1 hg hcg hb
        have HBV : Hid (Below w.heap.size w V1) := (HBW.out.alloc HBW.out.size _).trans (hb.mono (by have := HBW.out.size; simp; omega))
        clear hb HBW
        by_cases hn : n ≤ 32
        · have rr := read_any bs HIN.out.lt n cp g 0 hn V1 hg (fun j hj => by rw [Nat.zero_add]; exact hcg j hj)
          have sm := fun W => same_any (rdv bs n n) W
          have rf := fun W (hW : Below w.heap.size w W) => refRead_in (HIN.out.moved hW) hn
          obtain ⟨r0, r1, r2, r3, hr⟩ := wv_form (rdv bs n n)
          simp only [hr] at rr sm rf
          have CR := hideP rr
          have CSM := hideP sm
          have CRR := hideP rf
          have g0 : ¬ (n : Int) > 32 := by omega
          have g0' : ¬ (32 : Int) < (n : Int) := by omega
          clear rr sm rf hr hn hg hcg HIN HIN5
          go_wp2_with fail
          refine CR.out.mono ?_
          rintro e V2 ⟨rfl, hb⟩
          have HBW : Hid (Below w.heap.size w V2) := HBV.out.trans (hb.mono HBV.out.size)
          clear hb HBV CR
          go_wp2_with fail
          refine at_world_t (fun W6 hW6 => ?_)
          have HBr : W6.heap[V2.heap.size]? = some (.cells #[.int .u64 r0, .int .u64 r1, .int .u64 r2, .int .u64 r3] 24 (0, 0)) := by
            rw [hW6]; exact heap_new _ _
          replace HBW : Hid (Below w.heap.size w W6) := by
            show Below _ _ _
            rw [hW6]; exact HBW.out.alloc HBW.out.size _
          clear hW6
          obtain ⟨cr0, cr1, cr2, cr3⟩ := cells4 HBr
          have hlr := lt_of_block HBr
          clear HBr
          refine wp_region_heldS (S := fun V => Below W6.heap.size W6 V) (by kernel_rfl) (Below.refl _ _).drew (fun hS => ?_)
          refine wpAnyH_takeL (i := 0) (v := ?_) rfl (by kernel_rfl) (by kernel_rfl) (by kernel_rfl) (fun _ _ _ h => h) (Or.inl ⟨by kernel_rfl, ?_⟩) hS ?_
          rotate_left
          · intro V hV
            go_simp
            (try with_reducible rfl)
          simp only [put_list, List.set_cons_succ, List.set_cons_zero]
          refine wpAnyH_takeL (i := 1) (v := ?_) rfl (by kernel_rfl) (by kernel_rfl) (by kernel_rfl) (fun _ _ _ h => h) (Or.inl ⟨by kernel_rfl, ?_⟩) hS ?_
          rotate_left
          · intro V hV
            go_simp
            (try with_reducible rfl)
          simp only [put_list, List.set_cons_succ, List.set_cons_zero]
          refine wpAnyH_takeL (i := 2) (v := ?_) rfl (by kernel_rfl) (by kernel_rfl) (by kernel_rfl) (fun _ _ _ h => h) (Or.inl ⟨by kernel_rfl, ?_⟩) hS ?_
          rotate_left
          · intro V hV
            go_simp
            (try with_reducible rfl)
          simp only [put_list, List.set_cons_succ, List.set_cons_zero]
          refine wpAnyH_takeL (i := 3) (v := ?_) rfl (by kernel_rfl) (by kernel_rfl) (by kernel_rfl) (fun _ _ _ h => h) (Or.inl ⟨by kernel_rfl, ?_⟩) hS ?_
          rotate_left
          · intro V hV
            have k0 := (hV.cell (p := ⟨V2.heap.size, 0, none⟩) hlr).trans cr0
            have k1 := (hV.cell (p := ⟨V2.heap.size, 1, none⟩) hlr).trans cr1
            have k2 := (hV.cell (p := ⟨V2.heap.size, 2, none⟩) hlr).trans cr2
            have k3 := (hV.cell (p := ⟨V2.heap.size, 3, none⟩) hlr).trans cr3
            go_simp
            (try with_reducible rfl)
          simp only [put_list, List.set_cons_succ, List.set_cons_zero]
          refine wpAnyH_takeL (i := 4) (v := ?_) rfl (by kernel_rfl) (by kernel_rfl) (by kernel_rfl) (fun _ _ _ h => h) (Or.inl ⟨by kernel_rfl, ?_⟩) hS ?_
          rotate_left
          · intro V hV
            go_simp
            (try with_reducible rfl)
          simp only [put_list, List.set_cons_succ, List.set_cons_zero]
          refine wpAnyH_ready (rs := [5]) (by kernel_rfl) (by simp) (AllReadyH.cons rfl (fun K hK => ?_) AllReadyH.nil)
          go_simp
          refine (CRR.out _ (HBW.out.trans (hS.mono HBW.out.size))).mono ?_
          rintro e T1 ⟨rfl, hbc⟩
          refine hK.out _ _ (hS.trans (hbc.mono hS.size)) (fun hS => ?_)
          clear hK K hbc
          refine wpAnyH_ready (rs := [6]) (by kernel_rfl) (by simp) (AllReadyH.cons rfl (fun K hK => ?_) AllReadyH.nil)
          go_simp
          refine (CSM.out _).mono ?_
          rintro e T2 ⟨rfl, hbc⟩
          refine hK.out _ _ (hS.trans (hbc.mono hS.size)) (fun hS => ?_)
          clear hK K hbc
          refine wpAnyH_takeL (i := 7) (v := ?_) rfl (by kernel_rfl) (by kernel_rfl) (by kernel_rfl) (fun _ _ _ h => h) (Or.inl ⟨by kernel_rfl, ?_⟩) hS ?_
          rotate_left
          · intro V hV
            go_simp
            (try with_reducible rfl)
          simp only [put_list, List.set_cons_succ, List.set_cons_zero]
          refine wpAnyH_ready (rs := [8]) (by kernel_rfl) (by simp) (AllReadyH.cons rfl (fun K hK => ?_) AllReadyH.nil)
          go_simp
          refine hK.out _ _ hS (fun hS => ?_)
          clear hK K
          refine wpAnyH_done (by kernel_rfl) ?_ _
          go_wp2_with fail
          go_ret
          exact ⟨rfl, HBW.out.trans (hS.mono HBW.out.size)⟩
        · have rr := read_long n cp (some ⟨g, 0, none⟩) (by omega) V1
          have hz : wv 0 = .agg #[.int .u64 0, .int .u64 0, .int .u64 0, .int .u64 0] := rfl
          rw [hz] at rr
          have CR := hideP rr
          have g0 : (n : Int) > 32 := by omega
          have g0' : (32 : Int) < (n : Int) := by omega
          have heq := aw_eq0
          clear rr hz hn hg hcg HIN HIN5
          go_wp2_with fail
          refine CR.out.mono ?_
          rintro e V2 ⟨rfl, hb⟩
          have HBW : Hid (Below w.heap.size w V2) := HBV.out.trans (hb.mono HBV.out.size)
          clear hb HBV CR
          go_wp2_with fail
          go_ret
          exact ⟨rfl, HBW.out.alloc HBW.out.size _⟩

/-- A value that is a slice of bytes that came in. -/
def BVal (w : World) (v : Value) : Prop := ∃ ao n cap bs, v = .slice ao n cap ∧ BIn w ao n cap bs

theorem wbytes_law (X : Nat) (v : Value) (w : World) (hv : BVal w v) : Calls Try.prog 7 #[wv X, v] w fun e w' => e = .returned (.bool true) ∧ Below w.heap.size w w' := by
  obtain ⟨ao, n, cap, bs, rfl, hin⟩ := hv
  exact wbytes_calls X n cap ao bs w hin

end Go.Proofs.Ytpnijncoldihfaa
