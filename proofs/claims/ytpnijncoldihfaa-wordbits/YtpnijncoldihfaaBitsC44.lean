/-
  Words are compared, combined and shifted as the document says: the walk of the law.
-/
import Derived.Test.YtpnijncoldihfaaBitsC27
import Derived.Test.YtpnijncoldihfaaBitsC29
import Derived.Test.YtpnijncoldihfaaBitsC35
import Derived.Test.YtpnijncoldihfaaBitsC36
import Derived.Test.YtpnijncoldihfaaBitsC38
import Derived.Test.YtpnijncoldihfaaBitsC19
import Derived.Test.YtpnijncoldihfaaBitsC24
import Derived.Test.YtpnijncoldihfaaBitsC25
import Derived.Test.YtpnijncoldihfaaBitsC18
import Derived.Test.YtpnijncoldihfaaBitsC34
import Derived.Test.YtpnijncoldihfaaBitsC43
import Derived.Test.YtpnijncoldihfaaBitsC15
namespace Go.Proofs.Ytpnijncoldihfaa
open Go.RowKit Go.Shelf

/-- How many bits a number has. -/
def lenN (Z : Nat) : Nat := if Z = 0 then 0 else Z.log2 + 1

theorem lenN_len (Z : Nat) : Len Z (lenN Z) := by
  unfold lenN
  by_cases h : Z = 0
  · rw [if_pos h, h]; exact ⟨by decide, fun h => absurd h (by decide)⟩
  · rw [if_neg h]
    refine ⟨Nat.lt_log2_self, fun _ => ?_⟩
    rw [Nat.add_sub_cancel]
    exact Nat.log2_self_le h

theorem bits_len (X : Nat) (w : World) : Calls Try.prog 66 #[wv X] w fun e w' => e = .returned (.int .i64 (lenN (X % M256))) ∧ Below w.heap.size w w' := by
  refine (bits_any X w).mono ?_
  rintro e w' ⟨⟨n, rfl, _, h1, h2⟩, hb⟩
  refine ⟨?_, hb⟩
  rw [(show n = lenN (X % M256) from Len.uniq ⟨h1, h2⟩ (lenN_len _))]

theorem refBits_len (X : Nat) (w : World) : Calls Try.prog 67 #[wv X] w fun e w' => e = .returned (.int .i64 (lenN (X % M256))) ∧ Below w.heap.size w w' := by
  refine (refBits_any X w).mono ?_
  rintro e w' ⟨n, rfl, h, hb⟩
  refine ⟨?_, hb⟩
  rw [h.uniq (lenN_len _)]

set_option maxHeartbeats 16000000 in
set_option maxRecDepth 100000 in
theorem bits_calls (X Y : Nat) (w : World) : Calls Try.prog 6 #[wv X, wv Y] w fun e w' => e = .returned (.bool true) ∧ Below w.heap.size w w' := by
  have k1 := fun W => cmp_any X Y W
  have k2 := fun W => refCmp_any X Y W
  have k3 := fun W => sCmp_any X Y W
  have k4 := fun W => refSCmp_any X Y W
  have k5 := fun W => bits_len X W
  have k6 := fun W => refBits_len X W
  generalize cmpI ((X + S255) % M256) ((Y + S255) % M256) = ci at k3 k4
  generalize cmpI (X % M256) (Y % M256) = cu at k1 k2
  generalize lenN (X % M256) = ln at k5 k6
  obtain ⟨x0, x1, x2, x3, hx⟩ := wv_form X
  obtain ⟨y0, y1, y2, y3, hy⟩ := wv_form Y
  obtain ⟨a0, a1, a2, a3, ha⟩ := wv_form (X % M256 &&& Y % M256)
  obtain ⟨b0, b1, b2, b3, hb⟩ := wv_form (X % M256 ||| Y % M256)
  obtain ⟨d0, d1, d2, d3, hd⟩ := wv_form (X % M256 ^^^ Y % M256)
  obtain ⟨f0, f1, f2, f3, hf⟩ := wv_form (M256 - 1 - X % M256)
  obtain ⟨g0, g1, g2, g3, hg⟩ := wv_form (byteN (Y % M256) X)
  obtain ⟨l0, l1, l2, l3, hl⟩ := wv_form (shlN (Y % M256) X)
  obtain ⟨q0, q1, q2, q3, hq⟩ := wv_form (shrN (Y % M256) X)
  obtain ⟨s0, s1, s2, s3, hs⟩ := wv_form (sarN (Y % M256) X)
  simp only [hx, hy] at k1
  have Ck1 := hideP k1
  clear k1
  simp only [hx, hy] at k2
  have Ck2 := hideP k2
  clear k2
  simp only [hx, hy] at k3
  have Ck3 := hideP k3
  clear k3
  simp only [hx, hy] at k4
  have Ck4 := hideP k4
  clear k4
  simp only [hx] at k5
  have Ck5 := hideP k5
  clear k5
  simp only [hx] at k6
  have Ck6 := hideP k6
  clear k6
  have pa := fun W => and_any X Y W
  simp only [hx, hy, ha] at pa
  have Cpa := hideP pa
  clear pa
  have da := fun W => refAnd_any X Y W
  simp only [hx, hy, ha] at da
  have Cda := hideP da
  clear da
  have ma := fun W => same_any (X % M256 &&& Y % M256) W
  simp only [ha] at ma
  have Cma := hideP ma
  clear ma
  have pb := fun W => or_any X Y W
  simp only [hx, hy, hb] at pb
  have Cpb := hideP pb
  clear pb
  have db := fun W => refOr_any X Y W
  simp only [hx, hy, hb] at db
  have Cdb := hideP db
  clear db
  have mb := fun W => same_any (X % M256 ||| Y % M256) W
  simp only [hb] at mb
  have Cmb := hideP mb
  clear mb
  have pd := fun W => xor_any X Y W
  simp only [hx, hy, hd] at pd
  have Cpd := hideP pd
  clear pd
  have dd := fun W => refXor_any X Y W
  simp only [hx, hy, hd] at dd
  have Cdd := hideP dd
  clear dd
  have md := fun W => same_any (X % M256 ^^^ Y % M256) W
  simp only [hd] at md
  have Cmd := hideP md
  clear md
  have pf := fun W => not_any X W
  simp only [hx, hf] at pf
  have Cpf := hideP pf
  clear pf
  have df := fun W => refNot_any X W
  simp only [hx, hf] at df
  have Cdf := hideP df
  clear df
  have mf := fun W => same_any (M256 - 1 - X % M256) W
  simp only [hf] at mf
  have Cmf := hideP mf
  clear mf
  have pg := fun W => byte_any Y X W
  simp only [hx, hy, hg] at pg
  have Cpg := hideP pg
  clear pg
  have dg := fun W => refByte_any Y X W
  simp only [hx, hy, hg] at dg
  have Cdg := hideP dg
  clear dg
  have mg := fun W => same_any (byteN (Y % M256) X) W
  simp only [hg] at mg
  have Cmg := hideP mg
  clear mg
  have pl := fun W => shl_any Y X W
  simp only [hx, hy, hl] at pl
  have Cpl := hideP pl
  clear pl
  have dl := fun W => refShl_any Y X W
  simp only [hx, hy, hl] at dl
  have Cdl := hideP dl
  clear dl
  have ml := fun W => same_any (shlN (Y % M256) X) W
  simp only [hl] at ml
  have Cml := hideP ml
  clear ml
  have pq := fun W => shr_any Y X W
  simp only [hx, hy, hq] at pq
  have Cpq := hideP pq
  clear pq
  have dq := fun W => refShr_any Y X W
  simp only [hx, hy, hq] at dq
  have Cdq := hideP dq
  clear dq
  have mq := fun W => same_any (shrN (Y % M256) X) W
  simp only [hq] at mq
  have Cmq := hideP mq
  clear mq
  have ps := fun W => sar_any Y X W
  simp only [hx, hy, hs] at ps
  have Cps := hideP ps
  clear ps
  have ds := fun W => refSar_any Y X W
  simp only [hx, hy, hs] at ds
  have Cds := hideP ds
  clear ds
  have ms := fun W => same_any (sarN (Y % M256) X) W
  simp only [hs] at ms
  have Cms := hideP ms
  clear ms
  have CAW := hideP (fun W => awake_any W)
  simp only [hx, hy]
  clear hx hy ha hb hd hf hg hl hq hs
  go_enter Try.func6, Try.ntmps6
  go_wp2_with fail
  refine at_world_t (fun W0 hW0 => ?_)
  have HBx : Hid (W0.heap[w.heap.size]? = some (.cells #[.int .u64 x0, .int .u64 x1, .int .u64 x2, .int .u64 x3] 24 (0, 0))) := by
    rw [hW0]; show _ = _; simp only [World.alloc, Array.getElem?_push, Array.size_push]; simp
  have HBy : Hid (W0.heap[w.heap.size + 1]? = some (.cells #[.int .u64 y0, .int .u64 y1, .int .u64 y2, .int .u64 y3] 24 (0, 0))) := by
    rw [hW0]; show _ = _; simp only [World.alloc, Array.getElem?_push, Array.size_push]; simp
  have HBW : Hid (Below w.heap.size w W0) := by
    show Below _ _ _
    rw [hW0]
    repeat first | exact Below.refl _ _ | (refine Below.alloc ?_ (by simp <;> omega) _)
  clear hW0
  obtain ⟨cx0, cx1, cx2, cx3⟩ := cells4 HBx.out
  have hlx := (Array.getElem?_eq_some_iff.1 HBx.out).1
  obtain ⟨cy0, cy1, cy2, cy3⟩ := cells4 HBy.out
  have hly := (Array.getElem?_eq_some_iff.1 HBy.out).1
  refine wp_region_heldS (S := fun V => Below W0.heap.size W0 V) (by kernel_rfl) (Below.refl _ _).drew (fun hS => ?_)
  refine wpAnyH_takeL (i := 0) (v := ?_) rfl (by kernel_rfl) (by kernel_rfl) (by kernel_rfl) (fun _ _ _ h => h) (Or.inl ⟨by kernel_rfl, ?_⟩) hS ?_
  rotate_left
  · intro V hV
    have k0 := (hV.cell (p := ⟨w.heap.size, 0, none⟩) hlx).trans cx0
    have k1 := (hV.cell (p := ⟨w.heap.size, 1, none⟩) hlx).trans cx1
    have k2 := (hV.cell (p := ⟨w.heap.size, 2, none⟩) hlx).trans cx2
    have k3 := (hV.cell (p := ⟨w.heap.size, 3, none⟩) hlx).trans cx3
    go_simp
    (try with_reducible rfl)
  simp only [put_list, List.set_cons_succ, List.set_cons_zero]
  refine wpAnyH_takeL (i := 1) (v := ?_) rfl (by kernel_rfl) (by kernel_rfl) (by kernel_rfl) (fun _ _ _ h => h) (Or.inl ⟨by kernel_rfl, ?_⟩) hS ?_
  rotate_left
  · intro V hV
    have k0 := (hV.cell (p := ⟨w.heap.size + 1, 0, none⟩) hly).trans cy0
    have k1 := (hV.cell (p := ⟨w.heap.size + 1, 1, none⟩) hly).trans cy1
    have k2 := (hV.cell (p := ⟨w.heap.size + 1, 2, none⟩) hly).trans cy2
    have k3 := (hV.cell (p := ⟨w.heap.size + 1, 3, none⟩) hly).trans cy3
    go_simp
    (try with_reducible rfl)
  simp only [put_list, List.set_cons_succ, List.set_cons_zero]
  refine wpAnyH_takeL (i := 3) (v := ?_) rfl (by kernel_rfl) (by kernel_rfl) (by kernel_rfl) (fun _ _ _ h => h) (Or.inl ⟨by kernel_rfl, ?_⟩) hS ?_
  rotate_left
  · intro V hV
    have k0 := (hV.cell (p := ⟨w.heap.size, 0, none⟩) hlx).trans cx0
    have k1 := (hV.cell (p := ⟨w.heap.size, 1, none⟩) hlx).trans cx1
    have k2 := (hV.cell (p := ⟨w.heap.size, 2, none⟩) hlx).trans cx2
    have k3 := (hV.cell (p := ⟨w.heap.size, 3, none⟩) hlx).trans cx3
    go_simp
    (try with_reducible rfl)
  simp only [put_list, List.set_cons_succ, List.set_cons_zero]
  refine wpAnyH_takeL (i := 4) (v := ?_) rfl (by kernel_rfl) (by kernel_rfl) (by kernel_rfl) (fun _ _ _ h => h) (Or.inl ⟨by kernel_rfl, ?_⟩) hS ?_
  rotate_left
  · intro V hV
    have k0 := (hV.cell (p := ⟨w.heap.size + 1, 0, none⟩) hly).trans cy0
    have k1 := (hV.cell (p := ⟨w.heap.size + 1, 1, none⟩) hly).trans cy1
    have k2 := (hV.cell (p := ⟨w.heap.size + 1, 2, none⟩) hly).trans cy2
    have k3 := (hV.cell (p := ⟨w.heap.size + 1, 3, none⟩) hly).trans cy3
    go_simp
    (try with_reducible rfl)
  simp only [put_list, List.set_cons_succ, List.set_cons_zero]
  refine wpAnyH_ready (rs := [2]) (by kernel_rfl) (by simp) (AllReadyH.cons rfl (fun K hK => ?_) AllReadyH.nil)
  go_simp
  refine (Ck1.out _).mono ?_
  rintro e U1 ⟨rfl, hbc⟩
  refine hK.out _ _ (hS.trans (hbc.mono hS.size)) (fun hS => ?_)
  clear hK K hbc
  refine wpAnyH_ready (rs := [5]) (by kernel_rfl) (by simp) (AllReadyH.cons rfl (fun K hK => ?_) AllReadyH.nil)
  go_simp
  refine (Ck2.out _).mono ?_
  rintro e U2 ⟨rfl, hbc⟩
  refine hK.out _ _ (hS.trans (hbc.mono hS.size)) (fun hS => ?_)
  clear hK K hbc
  refine wpAnyH_takeL (i := 6) (v := ?_) rfl (by kernel_rfl) (by kernel_rfl) (by kernel_rfl) (fun _ _ _ h => h) (Or.inl ⟨by kernel_rfl, ?_⟩) hS ?_
  rotate_left
  · intro V hV
    go_simp
    (try with_reducible rfl)
  simp only [put_list, List.set_cons_succ, List.set_cons_zero]
  as_aux_lemma =>
    refine wpAnyH_takeL (i := 7) (v := ?_) rfl (by kernel_rfl) (by kernel_rfl) (by kernel_rfl) (fun _ _ _ h => h) (Or.inl ⟨by kernel_rfl, ?_⟩) hS ?_
    rotate_left
    · intro V hV
      go_simp
      (try with_reducible rfl)
    simp only [put_list, List.set_cons_succ, List.set_cons_zero]
    refine wpAnyH_takeL (i := 8) (v := ?_) rfl (by kernel_rfl) (by kernel_rfl) (by kernel_rfl) (fun _ _ _ h => h) (Or.inl ⟨by kernel_rfl, ?_⟩) hS ?_
    rotate_left
    · intro V hV
      have k0 := (hV.cell (p := ⟨w.heap.size, 0, none⟩) hlx).trans cx0
      have k1 := (hV.cell (p := ⟨w.heap.size, 1, none⟩) hlx).trans cx1
      have k2 := (hV.cell (p := ⟨w.heap.size, 2, none⟩) hlx).trans cx2
      have k3 := (hV.cell (p := ⟨w.heap.size, 3, none⟩) hlx).trans cx3
      go_simp
      (try with_reducible rfl)
    simp only [put_list, List.set_cons_succ, List.set_cons_zero]
    refine wpAnyH_takeL (i := 9) (v := ?_) rfl (by kernel_rfl) (by kernel_rfl) (by kernel_rfl) (fun _ _ _ h => h) (Or.inl ⟨by kernel_rfl, ?_⟩) hS ?_
    rotate_left
    · intro V hV
      have k0 := (hV.cell (p := ⟨w.heap.size + 1, 0, none⟩) hly).trans cy0
      have k1 := (hV.cell (p := ⟨w.heap.size + 1, 1, none⟩) hly).trans cy1
      have k2 := (hV.cell (p := ⟨w.heap.size + 1, 2, none⟩) hly).trans cy2
      have k3 := (hV.cell (p := ⟨w.heap.size + 1, 3, none⟩) hly).trans cy3
      go_simp
      (try with_reducible rfl)
    simp only [put_list, List.set_cons_succ, List.set_cons_zero]
    refine wpAnyH_takeL (i := 11) (v := ?_) rfl (by kernel_rfl) (by kernel_rfl) (by kernel_rfl) (fun _ _ _ h => h) (Or.inl ⟨by kernel_rfl, ?_⟩) hS ?_
    rotate_left
    · intro V hV
      have k0 := (hV.cell (p := ⟨w.heap.size, 0, none⟩) hlx).trans cx0
      have k1 := (hV.cell (p := ⟨w.heap.size, 1, none⟩) hlx).trans cx1
      have k2 := (hV.cell (p := ⟨w.heap.size, 2, none⟩) hlx).trans cx2
      have k3 := (hV.cell (p := ⟨w.heap.size, 3, none⟩) hlx).trans cx3
      go_simp
      (try with_reducible rfl)
    simp only [put_list, List.set_cons_succ, List.set_cons_zero]
    refine wpAnyH_takeL (i := 12) (v := ?_) rfl (by kernel_rfl) (by kernel_rfl) (by kernel_rfl) (fun _ _ _ h => h) (Or.inl ⟨by kernel_rfl, ?_⟩) hS ?_
    rotate_left
    · intro V hV
      have k0 := (hV.cell (p := ⟨w.heap.size + 1, 0, none⟩) hly).trans cy0
      have k1 := (hV.cell (p := ⟨w.heap.size + 1, 1, none⟩) hly).trans cy1
      have k2 := (hV.cell (p := ⟨w.heap.size + 1, 2, none⟩) hly).trans cy2
      have k3 := (hV.cell (p := ⟨w.heap.size + 1, 3, none⟩) hly).trans cy3
      go_simp
      (try with_reducible rfl)
    simp only [put_list, List.set_cons_succ, List.set_cons_zero]
    refine wpAnyH_ready (rs := [10]) (by kernel_rfl) (by simp) (AllReadyH.cons rfl (fun K hK => ?_) AllReadyH.nil)
    go_simp
    refine (Ck3.out _).mono ?_
    rintro e U3 ⟨rfl, hbc⟩
    refine hK.out _ _ (hS.trans (hbc.mono hS.size)) (fun hS => ?_)
    clear hK K hbc
    refine wpAnyH_ready (rs := [13]) (by kernel_rfl) (by simp) (AllReadyH.cons rfl (fun K hK => ?_) AllReadyH.nil)
    go_simp
    refine (Ck4.out _).mono ?_
    rintro e U4 ⟨rfl, hbc⟩
    refine hK.out _ _ (hS.trans (hbc.mono hS.size)) (fun hS => ?_)
    clear hK K hbc
    refine wpAnyH_takeL (i := 14) (v := ?_) rfl (by kernel_rfl) (by kernel_rfl) (by kernel_rfl) (fun _ _ _ h => h) (Or.inl ⟨by kernel_rfl, ?_⟩) hS ?_
    rotate_left
    · intro V hV
      go_simp
      (try with_reducible rfl)
    simp only [put_list, List.set_cons_succ, List.set_cons_zero]
    as_aux_lemma =>
      refine wpAnyH_takeL (i := 15) (v := ?_) rfl (by kernel_rfl) (by kernel_rfl) (by kernel_rfl) (fun _ _ _ h => h) (Or.inl ⟨by kernel_rfl, ?_⟩) hS ?_
      rotate_left
      · intro V hV
        go_simp
        (try with_reducible rfl)
      simp only [put_list, List.set_cons_succ, List.set_cons_zero]
      refine wpAnyH_takeL (i := 16) (v := ?_) rfl (by kernel_rfl) (by kernel_rfl) (by kernel_rfl) (fun _ _ _ h => h) (Or.inl ⟨by kernel_rfl, ?_⟩) hS ?_
      rotate_left
      · intro V hV
        go_simp
        (try with_reducible rfl)
      simp only [put_list, List.set_cons_succ, List.set_cons_zero]
      refine wpAnyH_takeL (i := 17) (v := ?_) rfl (by kernel_rfl) (by kernel_rfl) (by kernel_rfl) (fun _ _ _ h => h) (Or.inl ⟨by kernel_rfl, ?_⟩) hS ?_
      rotate_left
      · intro V hV
        have k0 := (hV.cell (p := ⟨w.heap.size, 0, none⟩) hlx).trans cx0
        have k1 := (hV.cell (p := ⟨w.heap.size, 1, none⟩) hlx).trans cx1
        have k2 := (hV.cell (p := ⟨w.heap.size, 2, none⟩) hlx).trans cx2
        have k3 := (hV.cell (p := ⟨w.heap.size, 3, none⟩) hlx).trans cx3
        go_simp
        (try with_reducible rfl)
      simp only [put_list, List.set_cons_succ, List.set_cons_zero]
      refine wpAnyH_takeL (i := 18) (v := ?_) rfl (by kernel_rfl) (by kernel_rfl) (by kernel_rfl) (fun _ _ _ h => h) (Or.inl ⟨by kernel_rfl, ?_⟩) hS ?_
      rotate_left
      · intro V hV
        have k0 := (hV.cell (p := ⟨w.heap.size + 1, 0, none⟩) hly).trans cy0
        have k1 := (hV.cell (p := ⟨w.heap.size + 1, 1, none⟩) hly).trans cy1
        have k2 := (hV.cell (p := ⟨w.heap.size + 1, 2, none⟩) hly).trans cy2
        have k3 := (hV.cell (p := ⟨w.heap.size + 1, 3, none⟩) hly).trans cy3
        go_simp
        (try with_reducible rfl)
      simp only [put_list, List.set_cons_succ, List.set_cons_zero]
      refine wpAnyH_takeL (i := 20) (v := ?_) rfl (by kernel_rfl) (by kernel_rfl) (by kernel_rfl) (fun _ _ _ h => h) (Or.inl ⟨by kernel_rfl, ?_⟩) hS ?_
      rotate_left
      · intro V hV
        have k0 := (hV.cell (p := ⟨w.heap.size, 0, none⟩) hlx).trans cx0
        have k1 := (hV.cell (p := ⟨w.heap.size, 1, none⟩) hlx).trans cx1
        have k2 := (hV.cell (p := ⟨w.heap.size, 2, none⟩) hlx).trans cx2
        have k3 := (hV.cell (p := ⟨w.heap.size, 3, none⟩) hlx).trans cx3
        go_simp
        (try with_reducible rfl)
      simp only [put_list, List.set_cons_succ, List.set_cons_zero]
      refine wpAnyH_takeL (i := 21) (v := ?_) rfl (by kernel_rfl) (by kernel_rfl) (by kernel_rfl) (fun _ _ _ h => h) (Or.inl ⟨by kernel_rfl, ?_⟩) hS ?_
      rotate_left
      · intro V hV
        have k0 := (hV.cell (p := ⟨w.heap.size + 1, 0, none⟩) hly).trans cy0
        have k1 := (hV.cell (p := ⟨w.heap.size + 1, 1, none⟩) hly).trans cy1
        have k2 := (hV.cell (p := ⟨w.heap.size + 1, 2, none⟩) hly).trans cy2
        have k3 := (hV.cell (p := ⟨w.heap.size + 1, 3, none⟩) hly).trans cy3
        go_simp
        (try with_reducible rfl)
      simp only [put_list, List.set_cons_succ, List.set_cons_zero]
      refine wpAnyH_ready (rs := [19]) (by kernel_rfl) (by simp) (AllReadyH.cons rfl (fun K hK => ?_) AllReadyH.nil)
      go_simp
      refine (Cpa.out _).mono ?_
      rintro e U5 ⟨rfl, hbc⟩
      refine hK.out _ _ (hS.trans (hbc.mono hS.size)) (fun hS => ?_)
      clear hK K hbc
      refine wpAnyH_ready (rs := [22]) (by kernel_rfl) (by simp) (AllReadyH.cons rfl (fun K hK => ?_) AllReadyH.nil)
      go_simp
      refine (Cda.out _).mono ?_
      rintro e U6 ⟨rfl, hbc⟩
      refine hK.out _ _ (hS.trans (hbc.mono hS.size)) (fun hS => ?_)
      clear hK K hbc
      as_aux_lemma =>
        refine wpAnyH_ready (rs := [23]) (by kernel_rfl) (by simp) (AllReadyH.cons rfl (fun K hK => ?_) AllReadyH.nil)
        go_simp
        refine (Cma.out _).mono ?_
        rintro e U7 ⟨rfl, hbc⟩
        refine hK.out _ _ (hS.trans (hbc.mono hS.size)) (fun hS => ?_)
        clear hK K hbc
        refine wpAnyH_takeL (i := 24) (v := ?_) rfl (by kernel_rfl) (by kernel_rfl) (by kernel_rfl) (fun _ _ _ h => h) (Or.inl ⟨by kernel_rfl, ?_⟩) hS ?_
        rotate_left
        · intro V hV
          go_simp
          (try with_reducible rfl)
        simp only [put_list, List.set_cons_succ, List.set_cons_zero]
        refine wpAnyH_takeL (i := 25) (v := ?_) rfl (by kernel_rfl) (by kernel_rfl) (by kernel_rfl) (fun _ _ _ h => h) (Or.inl ⟨by kernel_rfl, ?_⟩) hS ?_
        rotate_left
        · intro V hV
          go_simp
          (try with_reducible rfl)
        simp only [put_list, List.set_cons_succ, List.set_cons_zero]
        refine wpAnyH_takeL (i := 26) (v := ?_) rfl (by kernel_rfl) (by kernel_rfl) (by kernel_rfl) (fun _ _ _ h => h) (Or.inl ⟨by kernel_rfl, ?_⟩) hS ?_
        rotate_left
        · intro V hV
          have k0 := (hV.cell (p := ⟨w.heap.size, 0, none⟩) hlx).trans cx0
          have k1 := (hV.cell (p := ⟨w.heap.size, 1, none⟩) hlx).trans cx1
          have k2 := (hV.cell (p := ⟨w.heap.size, 2, none⟩) hlx).trans cx2
          have k3 := (hV.cell (p := ⟨w.heap.size, 3, none⟩) hlx).trans cx3
          go_simp
          (try with_reducible rfl)
        simp only [put_list, List.set_cons_succ, List.set_cons_zero]
        refine wpAnyH_takeL (i := 27) (v := ?_) rfl (by kernel_rfl) (by kernel_rfl) (by kernel_rfl) (fun _ _ _ h => h) (Or.inl ⟨by kernel_rfl, ?_⟩) hS ?_
        rotate_left
        · intro V hV
          have k0 := (hV.cell (p := ⟨w.heap.size + 1, 0, none⟩) hly).trans cy0
          have k1 := (hV.cell (p := ⟨w.heap.size + 1, 1, none⟩) hly).trans cy1
          have k2 := (hV.cell (p := ⟨w.heap.size + 1, 2, none⟩) hly).trans cy2
          have k3 := (hV.cell (p := ⟨w.heap.size + 1, 3, none⟩) hly).trans cy3
          go_simp
          (try with_reducible rfl)
        simp only [put_list, List.set_cons_succ, List.set_cons_zero]
        refine wpAnyH_takeL (i := 29) (v := ?_) rfl (by kernel_rfl) (by kernel_rfl) (by kernel_rfl) (fun _ _ _ h => h) (Or.inl ⟨by kernel_rfl, ?_⟩) hS ?_
        rotate_left
        · intro V hV
          have k0 := (hV.cell (p := ⟨w.heap.size, 0, none⟩) hlx).trans cx0
          have k1 := (hV.cell (p := ⟨w.heap.size, 1, none⟩) hlx).trans cx1
          have k2 := (hV.cell (p := ⟨w.heap.size, 2, none⟩) hlx).trans cx2
          have k3 := (hV.cell (p := ⟨w.heap.size, 3, none⟩) hlx).trans cx3
          go_simp
          (try with_reducible rfl)
        simp only [put_list, List.set_cons_succ, List.set_cons_zero]
        refine wpAnyH_takeL (i := 30) (v := ?_) rfl (by kernel_rfl) (by kernel_rfl) (by kernel_rfl) (fun _ _ _ h => h) (Or.inl ⟨by kernel_rfl, ?_⟩) hS ?_
        rotate_left
        · intro V hV
          have k0 := (hV.cell (p := ⟨w.heap.size + 1, 0, none⟩) hly).trans cy0
          have k1 := (hV.cell (p := ⟨w.heap.size + 1, 1, none⟩) hly).trans cy1
          have k2 := (hV.cell (p := ⟨w.heap.size + 1, 2, none⟩) hly).trans cy2
          have k3 := (hV.cell (p := ⟨w.heap.size + 1, 3, none⟩) hly).trans cy3
          go_simp
          (try with_reducible rfl)
        simp only [put_list, List.set_cons_succ, List.set_cons_zero]
        refine wpAnyH_ready (rs := [28]) (by kernel_rfl) (by simp) (AllReadyH.cons rfl (fun K hK => ?_) AllReadyH.nil)
        go_simp
        refine (Cpb.out _).mono ?_
        rintro e U8 ⟨rfl, hbc⟩
        refine hK.out _ _ (hS.trans (hbc.mono hS.size)) (fun hS => ?_)
        clear hK K hbc
        as_aux_lemma =>
          refine wpAnyH_ready (rs := [31]) (by kernel_rfl) (by simp) (AllReadyH.cons rfl (fun K hK => ?_) AllReadyH.nil)
          go_simp
          refine (Cdb.out _).mono ?_
          rintro e U9 ⟨rfl, hbc⟩
          refine hK.out _ _ (hS.trans (hbc.mono hS.size)) (fun hS => ?_)
          clear hK K hbc
          refine wpAnyH_ready (rs := [32]) (by kernel_rfl) (by simp) (AllReadyH.cons rfl (fun K hK => ?_) AllReadyH.nil)
          go_simp
          refine (Cmb.out _).mono ?_
          rintro e U10 ⟨rfl, hbc⟩
          refine hK.out _ _ (hS.trans (hbc.mono hS.size)) (fun hS => ?_)
          clear hK K hbc
          refine wpAnyH_takeL (i := 33) (v := ?_) rfl (by kernel_rfl) (by kernel_rfl) (by kernel_rfl) (fun _ _ _ h => h) (Or.inl ⟨by kernel_rfl, ?_⟩) hS ?_
          rotate_left
          · intro V hV
            go_simp
            (try with_reducible rfl)
          simp only [put_list, List.set_cons_succ, List.set_cons_zero]
          refine wpAnyH_takeL (i := 34) (v := ?_) rfl (by kernel_rfl) (by kernel_rfl) (by kernel_rfl) (fun _ _ _ h => h) (Or.inl ⟨by kernel_rfl, ?_⟩) hS ?_
          rotate_left
          · intro V hV
            go_simp
            (try with_reducible rfl)
          simp only [put_list, List.set_cons_succ, List.set_cons_zero]
          refine wpAnyH_takeL (i := 35) (v := ?_) rfl (by kernel_rfl) (by kernel_rfl) (by kernel_rfl) (fun _ _ _ h => h) (Or.inl ⟨by kernel_rfl, ?_⟩) hS ?_
          rotate_left
          · intro V hV
            have k0 := (hV.cell (p := ⟨w.heap.size, 0, none⟩) hlx).trans cx0
            have k1 := (hV.cell (p := ⟨w.heap.size, 1, none⟩) hlx).trans cx1
            have k2 := (hV.cell (p := ⟨w.heap.size, 2, none⟩) hlx).trans cx2
            have k3 := (hV.cell (p := ⟨w.heap.size, 3, none⟩) hlx).trans cx3
            go_simp
            (try with_reducible rfl)
          simp only [put_list, List.set_cons_succ, List.set_cons_zero]
          refine wpAnyH_takeL (i := 36) (v := ?_) rfl (by kernel_rfl) (by kernel_rfl) (by kernel_rfl) (fun _ _ _ h => h) (Or.inl ⟨by kernel_rfl, ?_⟩) hS ?_
          rotate_left
          · intro V hV
            have k0 := (hV.cell (p := ⟨w.heap.size + 1, 0, none⟩) hly).trans cy0
            have k1 := (hV.cell (p := ⟨w.heap.size + 1, 1, none⟩) hly).trans cy1
            have k2 := (hV.cell (p := ⟨w.heap.size + 1, 2, none⟩) hly).trans cy2
            have k3 := (hV.cell (p := ⟨w.heap.size + 1, 3, none⟩) hly).trans cy3
            go_simp
            (try with_reducible rfl)
          simp only [put_list, List.set_cons_succ, List.set_cons_zero]
          refine wpAnyH_takeL (i := 38) (v := ?_) rfl (by kernel_rfl) (by kernel_rfl) (by kernel_rfl) (fun _ _ _ h => h) (Or.inl ⟨by kernel_rfl, ?_⟩) hS ?_
          rotate_left
          · intro V hV
            have k0 := (hV.cell (p := ⟨w.heap.size, 0, none⟩) hlx).trans cx0
            have k1 := (hV.cell (p := ⟨w.heap.size, 1, none⟩) hlx).trans cx1
            have k2 := (hV.cell (p := ⟨w.heap.size, 2, none⟩) hlx).trans cx2
            have k3 := (hV.cell (p := ⟨w.heap.size, 3, none⟩) hlx).trans cx3
            go_simp
            (try with_reducible rfl)
          simp only [put_list, List.set_cons_succ, List.set_cons_zero]
          refine wpAnyH_takeL (i := 39) (v := ?_) rfl (by kernel_rfl) (by kernel_rfl) (by kernel_rfl) (fun _ _ _ h => h) (Or.inl ⟨by kernel_rfl, ?_⟩) hS ?_
          rotate_left
          · intro V hV
            have k0 := (hV.cell (p := ⟨w.heap.size + 1, 0, none⟩) hly).trans cy0
            have k1 := (hV.cell (p := ⟨w.heap.size + 1, 1, none⟩) hly).trans cy1
            have k2 := (hV.cell (p := ⟨w.heap.size + 1, 2, none⟩) hly).trans cy2
            have k3 := (hV.cell (p := ⟨w.heap.size + 1, 3, none⟩) hly).trans cy3
            go_simp
            (try with_reducible rfl)
          simp only [put_list, List.set_cons_succ, List.set_cons_zero]
          as_aux_lemma =>
            refine wpAnyH_ready (rs := [37]) (by kernel_rfl) (by simp) (AllReadyH.cons rfl (fun K hK => ?_) AllReadyH.nil)
            go_simp
            refine (Cpd.out _).mono ?_
            rintro e U11 ⟨rfl, hbc⟩
            refine hK.out _ _ (hS.trans (hbc.mono hS.size)) (fun hS => ?_)
            clear hK K hbc
            refine wpAnyH_ready (rs := [40]) (by kernel_rfl) (by simp) (AllReadyH.cons rfl (fun K hK => ?_) AllReadyH.nil)
            go_simp
            refine (Cdd.out _).mono ?_
            rintro e U12 ⟨rfl, hbc⟩
            refine hK.out _ _ (hS.trans (hbc.mono hS.size)) (fun hS => ?_)
            clear hK K hbc
            refine wpAnyH_ready (rs := [41]) (by kernel_rfl) (by simp) (AllReadyH.cons rfl (fun K hK => ?_) AllReadyH.nil)
            go_simp
            refine (Cmd.out _).mono ?_
            rintro e U13 ⟨rfl, hbc⟩
            refine hK.out _ _ (hS.trans (hbc.mono hS.size)) (fun hS => ?_)
            clear hK K hbc
            refine wpAnyH_takeL (i := 42) (v := ?_) rfl (by kernel_rfl) (by kernel_rfl) (by kernel_rfl) (fun _ _ _ h => h) (Or.inl ⟨by kernel_rfl, ?_⟩) hS ?_
            rotate_left
            · intro V hV
              go_simp
              (try with_reducible rfl)
            simp only [put_list, List.set_cons_succ, List.set_cons_zero]
            refine wpAnyH_takeL (i := 43) (v := ?_) rfl (by kernel_rfl) (by kernel_rfl) (by kernel_rfl) (fun _ _ _ h => h) (Or.inl ⟨by kernel_rfl, ?_⟩) hS ?_
            rotate_left
            · intro V hV
              go_simp
              (try with_reducible rfl)
            simp only [put_list, List.set_cons_succ, List.set_cons_zero]
            refine wpAnyH_takeL (i := 44) (v := ?_) rfl (by kernel_rfl) (by kernel_rfl) (by kernel_rfl) (fun _ _ _ h => h) (Or.inl ⟨by kernel_rfl, ?_⟩) hS ?_
            rotate_left
            · intro V hV
              have k0 := (hV.cell (p := ⟨w.heap.size, 0, none⟩) hlx).trans cx0
              have k1 := (hV.cell (p := ⟨w.heap.size, 1, none⟩) hlx).trans cx1
              have k2 := (hV.cell (p := ⟨w.heap.size, 2, none⟩) hlx).trans cx2
              have k3 := (hV.cell (p := ⟨w.heap.size, 3, none⟩) hlx).trans cx3
              go_simp
              (try with_reducible rfl)
            simp only [put_list, List.set_cons_succ, List.set_cons_zero]
            refine wpAnyH_takeL (i := 46) (v := ?_) rfl (by kernel_rfl) (by kernel_rfl) (by kernel_rfl) (fun _ _ _ h => h) (Or.inl ⟨by kernel_rfl, ?_⟩) hS ?_
            rotate_left
            · intro V hV
              have k0 := (hV.cell (p := ⟨w.heap.size, 0, none⟩) hlx).trans cx0
              have k1 := (hV.cell (p := ⟨w.heap.size, 1, none⟩) hlx).trans cx1
              have k2 := (hV.cell (p := ⟨w.heap.size, 2, none⟩) hlx).trans cx2
              have k3 := (hV.cell (p := ⟨w.heap.size, 3, none⟩) hlx).trans cx3
              go_simp
              (try with_reducible rfl)
            simp only [put_list, List.set_cons_succ, List.set_cons_zero]
            refine wpAnyH_ready (rs := [45]) (by kernel_rfl) (by simp) (AllReadyH.cons rfl (fun K hK => ?_) AllReadyH.nil)
            go_simp
            refine (Cpf.out _).mono ?_
            rintro e U14 ⟨rfl, hbc⟩
            refine hK.out _ _ (hS.trans (hbc.mono hS.size)) (fun hS => ?_)
            clear hK K hbc
            as_aux_lemma =>
              refine wpAnyH_ready (rs := [47]) (by kernel_rfl) (by simp) (AllReadyH.cons rfl (fun K hK => ?_) AllReadyH.nil)
              go_simp
              refine (Cdf.out _).mono ?_
              rintro e U15 ⟨rfl, hbc⟩
              refine hK.out _ _ (hS.trans (hbc.mono hS.size)) (fun hS => ?_)
              clear hK K hbc
              refine wpAnyH_ready (rs := [48]) (by kernel_rfl) (by simp) (AllReadyH.cons rfl (fun K hK => ?_) AllReadyH.nil)
              go_simp
              refine (Cmf.out _).mono ?_
              rintro e U16 ⟨rfl, hbc⟩
              refine hK.out _ _ (hS.trans (hbc.mono hS.size)) (fun hS => ?_)
              clear hK K hbc
              refine wpAnyH_takeL (i := 49) (v := ?_) rfl (by kernel_rfl) (by kernel_rfl) (by kernel_rfl) (fun _ _ _ h => h) (Or.inl ⟨by kernel_rfl, ?_⟩) hS ?_
              rotate_left
              · intro V hV
                go_simp
                (try with_reducible rfl)
              simp only [put_list, List.set_cons_succ, List.set_cons_zero]
              refine wpAnyH_takeL (i := 50) (v := ?_) rfl (by kernel_rfl) (by kernel_rfl) (by kernel_rfl) (fun _ _ _ h => h) (Or.inl ⟨by kernel_rfl, ?_⟩) hS ?_
              rotate_left
              · intro V hV
                go_simp
                (try with_reducible rfl)
              simp only [put_list, List.set_cons_succ, List.set_cons_zero]
              refine wpAnyH_takeL (i := 51) (v := ?_) rfl (by kernel_rfl) (by kernel_rfl) (by kernel_rfl) (fun _ _ _ h => h) (Or.inl ⟨by kernel_rfl, ?_⟩) hS ?_
              rotate_left
              · intro V hV
                have k0 := (hV.cell (p := ⟨w.heap.size + 1, 0, none⟩) hly).trans cy0
                have k1 := (hV.cell (p := ⟨w.heap.size + 1, 1, none⟩) hly).trans cy1
                have k2 := (hV.cell (p := ⟨w.heap.size + 1, 2, none⟩) hly).trans cy2
                have k3 := (hV.cell (p := ⟨w.heap.size + 1, 3, none⟩) hly).trans cy3
                go_simp
                (try with_reducible rfl)
              simp only [put_list, List.set_cons_succ, List.set_cons_zero]
              refine wpAnyH_takeL (i := 52) (v := ?_) rfl (by kernel_rfl) (by kernel_rfl) (by kernel_rfl) (fun _ _ _ h => h) (Or.inl ⟨by kernel_rfl, ?_⟩) hS ?_
              rotate_left
              · intro V hV
                have k0 := (hV.cell (p := ⟨w.heap.size, 0, none⟩) hlx).trans cx0
                have k1 := (hV.cell (p := ⟨w.heap.size, 1, none⟩) hlx).trans cx1
                have k2 := (hV.cell (p := ⟨w.heap.size, 2, none⟩) hlx).trans cx2
                have k3 := (hV.cell (p := ⟨w.heap.size, 3, none⟩) hlx).trans cx3
                go_simp
                (try with_reducible rfl)
              simp only [put_list, List.set_cons_succ, List.set_cons_zero]
              refine wpAnyH_takeL (i := 54) (v := ?_) rfl (by kernel_rfl) (by kernel_rfl) (by kernel_rfl) (fun _ _ _ h => h) (Or.inl ⟨by kernel_rfl, ?_⟩) hS ?_
              rotate_left
              · intro V hV
                have k0 := (hV.cell (p := ⟨w.heap.size + 1, 0, none⟩) hly).trans cy0
                have k1 := (hV.cell (p := ⟨w.heap.size + 1, 1, none⟩) hly).trans cy1
                have k2 := (hV.cell (p := ⟨w.heap.size + 1, 2, none⟩) hly).trans cy2
                have k3 := (hV.cell (p := ⟨w.heap.size + 1, 3, none⟩) hly).trans cy3
                go_simp
                (try with_reducible rfl)
              simp only [put_list, List.set_cons_succ, List.set_cons_zero]
              refine wpAnyH_takeL (i := 55) (v := ?_) rfl (by kernel_rfl) (by kernel_rfl) (by kernel_rfl) (fun _ _ _ h => h) (Or.inl ⟨by kernel_rfl, ?_⟩) hS ?_
              rotate_left
              · intro V hV
                have k0 := (hV.cell (p := ⟨w.heap.size, 0, none⟩) hlx).trans cx0
                have k1 := (hV.cell (p := ⟨w.heap.size, 1, none⟩) hlx).trans cx1
                have k2 := (hV.cell (p := ⟨w.heap.size, 2, none⟩) hlx).trans cx2
                have k3 := (hV.cell (p := ⟨w.heap.size, 3, none⟩) hlx).trans cx3
                go_simp
                (try with_reducible rfl)
              simp only [put_list, List.set_cons_succ, List.set_cons_zero]
              as_aux_lemma =>
                refine wpAnyH_ready (rs := [53]) (by kernel_rfl) (by simp) (AllReadyH.cons rfl (fun K hK => ?_) AllReadyH.nil)
                go_simp
                refine (Cpg.out _).mono ?_
                rintro e U17 ⟨rfl, hbc⟩
                refine hK.out _ _ (hS.trans (hbc.mono hS.size)) (fun hS => ?_)
                clear hK K hbc
                refine wpAnyH_ready (rs := [56]) (by kernel_rfl) (by simp) (AllReadyH.cons rfl (fun K hK => ?_) AllReadyH.nil)
                go_simp
                refine (Cdg.out _).mono ?_
                rintro e U18 ⟨rfl, hbc⟩
                refine hK.out _ _ (hS.trans (hbc.mono hS.size)) (fun hS => ?_)
                clear hK K hbc
                refine wpAnyH_ready (rs := [57]) (by kernel_rfl) (by simp) (AllReadyH.cons rfl (fun K hK => ?_) AllReadyH.nil)
                go_simp
                refine (Cmg.out _).mono ?_
                rintro e U19 ⟨rfl, hbc⟩
                refine hK.out _ _ (hS.trans (hbc.mono hS.size)) (fun hS => ?_)
                clear hK K hbc
                refine wpAnyH_takeL (i := 58) (v := ?_) rfl (by kernel_rfl) (by kernel_rfl) (by kernel_rfl) (fun _ _ _ h => h) (Or.inl ⟨by kernel_rfl, ?_⟩) hS ?_
                rotate_left
                · intro V hV
                  go_simp
                  (try with_reducible rfl)
                simp only [put_list, List.set_cons_succ, List.set_cons_zero]
                refine wpAnyH_takeL (i := 59) (v := ?_) rfl (by kernel_rfl) (by kernel_rfl) (by kernel_rfl) (fun _ _ _ h => h) (Or.inl ⟨by kernel_rfl, ?_⟩) hS ?_
                rotate_left
                · intro V hV
                  go_simp
                  (try with_reducible rfl)
                simp only [put_list, List.set_cons_succ, List.set_cons_zero]
                refine wpAnyH_takeL (i := 60) (v := ?_) rfl (by kernel_rfl) (by kernel_rfl) (by kernel_rfl) (fun _ _ _ h => h) (Or.inl ⟨by kernel_rfl, ?_⟩) hS ?_
                rotate_left
                · intro V hV
                  have k0 := (hV.cell (p := ⟨w.heap.size + 1, 0, none⟩) hly).trans cy0
                  have k1 := (hV.cell (p := ⟨w.heap.size + 1, 1, none⟩) hly).trans cy1
                  have k2 := (hV.cell (p := ⟨w.heap.size + 1, 2, none⟩) hly).trans cy2
                  have k3 := (hV.cell (p := ⟨w.heap.size + 1, 3, none⟩) hly).trans cy3
                  go_simp
                  (try with_reducible rfl)
                simp only [put_list, List.set_cons_succ, List.set_cons_zero]
                refine wpAnyH_takeL (i := 61) (v := ?_) rfl (by kernel_rfl) (by kernel_rfl) (by kernel_rfl) (fun _ _ _ h => h) (Or.inl ⟨by kernel_rfl, ?_⟩) hS ?_
                rotate_left
                · intro V hV
                  have k0 := (hV.cell (p := ⟨w.heap.size, 0, none⟩) hlx).trans cx0
                  have k1 := (hV.cell (p := ⟨w.heap.size, 1, none⟩) hlx).trans cx1
                  have k2 := (hV.cell (p := ⟨w.heap.size, 2, none⟩) hlx).trans cx2
                  have k3 := (hV.cell (p := ⟨w.heap.size, 3, none⟩) hlx).trans cx3
                  go_simp
                  (try with_reducible rfl)
                simp only [put_list, List.set_cons_succ, List.set_cons_zero]
                refine wpAnyH_takeL (i := 63) (v := ?_) rfl (by kernel_rfl) (by kernel_rfl) (by kernel_rfl) (fun _ _ _ h => h) (Or.inl ⟨by kernel_rfl, ?_⟩) hS ?_
                rotate_left
                · intro V hV
                  have k0 := (hV.cell (p := ⟨w.heap.size + 1, 0, none⟩) hly).trans cy0
                  have k1 := (hV.cell (p := ⟨w.heap.size + 1, 1, none⟩) hly).trans cy1
                  have k2 := (hV.cell (p := ⟨w.heap.size + 1, 2, none⟩) hly).trans cy2
                  have k3 := (hV.cell (p := ⟨w.heap.size + 1, 3, none⟩) hly).trans cy3
                  go_simp
                  (try with_reducible rfl)
                simp only [put_list, List.set_cons_succ, List.set_cons_zero]
                as_aux_lemma =>
                  refine wpAnyH_takeL (i := 64) (v := ?_) rfl (by kernel_rfl) (by kernel_rfl) (by kernel_rfl) (fun _ _ _ h => h) (Or.inl ⟨by kernel_rfl, ?_⟩) hS ?_
                  rotate_left
                  · intro V hV
                    have k0 := (hV.cell (p := ⟨w.heap.size, 0, none⟩) hlx).trans cx0
                    have k1 := (hV.cell (p := ⟨w.heap.size, 1, none⟩) hlx).trans cx1
                    have k2 := (hV.cell (p := ⟨w.heap.size, 2, none⟩) hlx).trans cx2
                    have k3 := (hV.cell (p := ⟨w.heap.size, 3, none⟩) hlx).trans cx3
                    go_simp
                    (try with_reducible rfl)
                  simp only [put_list, List.set_cons_succ, List.set_cons_zero]
                  refine wpAnyH_ready (rs := [62]) (by kernel_rfl) (by simp) (AllReadyH.cons rfl (fun K hK => ?_) AllReadyH.nil)
                  go_simp
                  refine (Cpl.out _).mono ?_
                  rintro e U20 ⟨rfl, hbc⟩
                  refine hK.out _ _ (hS.trans (hbc.mono hS.size)) (fun hS => ?_)
                  clear hK K hbc
                  refine wpAnyH_ready (rs := [65]) (by kernel_rfl) (by simp) (AllReadyH.cons rfl (fun K hK => ?_) AllReadyH.nil)
                  go_simp
                  refine (Cdl.out _).mono ?_
                  rintro e U21 ⟨rfl, hbc⟩
                  refine hK.out _ _ (hS.trans (hbc.mono hS.size)) (fun hS => ?_)
                  clear hK K hbc
                  refine wpAnyH_ready (rs := [66]) (by kernel_rfl) (by simp) (AllReadyH.cons rfl (fun K hK => ?_) AllReadyH.nil)
                  go_simp
                  refine (Cml.out _).mono ?_
                  rintro e U22 ⟨rfl, hbc⟩
                  refine hK.out _ _ (hS.trans (hbc.mono hS.size)) (fun hS => ?_)
                  clear hK K hbc
                  refine wpAnyH_takeL (i := 67) (v := ?_) rfl (by kernel_rfl) (by kernel_rfl) (by kernel_rfl) (fun _ _ _ h => h) (Or.inl ⟨by kernel_rfl, ?_⟩) hS ?_
                  rotate_left
                  · intro V hV
                    go_simp
                    (try with_reducible rfl)
                  simp only [put_list, List.set_cons_succ, List.set_cons_zero]
                  refine wpAnyH_takeL (i := 68) (v := ?_) rfl (by kernel_rfl) (by kernel_rfl) (by kernel_rfl) (fun _ _ _ h => h) (Or.inl ⟨by kernel_rfl, ?_⟩) hS ?_
                  rotate_left
                  · intro V hV
                    go_simp
                    (try with_reducible rfl)
                  simp only [put_list, List.set_cons_succ, List.set_cons_zero]
                  refine wpAnyH_takeL (i := 69) (v := ?_) rfl (by kernel_rfl) (by kernel_rfl) (by kernel_rfl) (fun _ _ _ h => h) (Or.inl ⟨by kernel_rfl, ?_⟩) hS ?_
                  rotate_left
                  · intro V hV
                    have k0 := (hV.cell (p := ⟨w.heap.size + 1, 0, none⟩) hly).trans cy0
                    have k1 := (hV.cell (p := ⟨w.heap.size + 1, 1, none⟩) hly).trans cy1
                    have k2 := (hV.cell (p := ⟨w.heap.size + 1, 2, none⟩) hly).trans cy2
                    have k3 := (hV.cell (p := ⟨w.heap.size + 1, 3, none⟩) hly).trans cy3
                    go_simp
                    (try with_reducible rfl)
                  simp only [put_list, List.set_cons_succ, List.set_cons_zero]
                  refine wpAnyH_takeL (i := 70) (v := ?_) rfl (by kernel_rfl) (by kernel_rfl) (by kernel_rfl) (fun _ _ _ h => h) (Or.inl ⟨by kernel_rfl, ?_⟩) hS ?_
                  rotate_left
                  · intro V hV
                    have k0 := (hV.cell (p := ⟨w.heap.size, 0, none⟩) hlx).trans cx0
                    have k1 := (hV.cell (p := ⟨w.heap.size, 1, none⟩) hlx).trans cx1
                    have k2 := (hV.cell (p := ⟨w.heap.size, 2, none⟩) hlx).trans cx2
                    have k3 := (hV.cell (p := ⟨w.heap.size, 3, none⟩) hlx).trans cx3
                    go_simp
                    (try with_reducible rfl)
                  simp only [put_list, List.set_cons_succ, List.set_cons_zero]
                  as_aux_lemma =>
                    refine wpAnyH_takeL (i := 72) (v := ?_) rfl (by kernel_rfl) (by kernel_rfl) (by kernel_rfl) (fun _ _ _ h => h) (Or.inl ⟨by kernel_rfl, ?_⟩) hS ?_
                    rotate_left
                    · intro V hV
                      have k0 := (hV.cell (p := ⟨w.heap.size + 1, 0, none⟩) hly).trans cy0
                      have k1 := (hV.cell (p := ⟨w.heap.size + 1, 1, none⟩) hly).trans cy1
                      have k2 := (hV.cell (p := ⟨w.heap.size + 1, 2, none⟩) hly).trans cy2
                      have k3 := (hV.cell (p := ⟨w.heap.size + 1, 3, none⟩) hly).trans cy3
                      go_simp
                      (try with_reducible rfl)
                    simp only [put_list, List.set_cons_succ, List.set_cons_zero]
                    refine wpAnyH_takeL (i := 73) (v := ?_) rfl (by kernel_rfl) (by kernel_rfl) (by kernel_rfl) (fun _ _ _ h => h) (Or.inl ⟨by kernel_rfl, ?_⟩) hS ?_
                    rotate_left
                    · intro V hV
                      have k0 := (hV.cell (p := ⟨w.heap.size, 0, none⟩) hlx).trans cx0
                      have k1 := (hV.cell (p := ⟨w.heap.size, 1, none⟩) hlx).trans cx1
                      have k2 := (hV.cell (p := ⟨w.heap.size, 2, none⟩) hlx).trans cx2
                      have k3 := (hV.cell (p := ⟨w.heap.size, 3, none⟩) hlx).trans cx3
                      go_simp
                      (try with_reducible rfl)
                    simp only [put_list, List.set_cons_succ, List.set_cons_zero]
                    refine wpAnyH_ready (rs := [71]) (by kernel_rfl) (by simp) (AllReadyH.cons rfl (fun K hK => ?_) AllReadyH.nil)
                    go_simp
                    refine (Cpq.out _).mono ?_
                    rintro e U23 ⟨rfl, hbc⟩
                    refine hK.out _ _ (hS.trans (hbc.mono hS.size)) (fun hS => ?_)
                    clear hK K hbc
                    refine wpAnyH_ready (rs := [74]) (by kernel_rfl) (by simp) (AllReadyH.cons rfl (fun K hK => ?_) AllReadyH.nil)
                    go_simp
                    refine (Cdq.out _).mono ?_
                    rintro e U24 ⟨rfl, hbc⟩
                    refine hK.out _ _ (hS.trans (hbc.mono hS.size)) (fun hS => ?_)
                    clear hK K hbc
                    refine wpAnyH_ready (rs := [75]) (by kernel_rfl) (by simp) (AllReadyH.cons rfl (fun K hK => ?_) AllReadyH.nil)
                    go_simp
                    refine (Cmq.out _).mono ?_
                    rintro e U25 ⟨rfl, hbc⟩
                    refine hK.out _ _ (hS.trans (hbc.mono hS.size)) (fun hS => ?_)
                    clear hK K hbc
                    refine wpAnyH_takeL (i := 76) (v := ?_) rfl (by kernel_rfl) (by kernel_rfl) (by kernel_rfl) (fun _ _ _ h => h) (Or.inl ⟨by kernel_rfl, ?_⟩) hS ?_
                    rotate_left
                    · intro V hV
                      go_simp
                      (try with_reducible rfl)
                    simp only [put_list, List.set_cons_succ, List.set_cons_zero]
                    refine wpAnyH_takeL (i := 77) (v := ?_) rfl (by kernel_rfl) (by kernel_rfl) (by kernel_rfl) (fun _ _ _ h => h) (Or.inl ⟨by kernel_rfl, ?_⟩) hS ?_
                    rotate_left
                    · intro V hV
                      go_simp
                      (try with_reducible rfl)
                    simp only [put_list, List.set_cons_succ, List.set_cons_zero]
                    refine wpAnyH_takeL (i := 78) (v := ?_) rfl (by kernel_rfl) (by kernel_rfl) (by kernel_rfl) (fun _ _ _ h => h) (Or.inl ⟨by kernel_rfl, ?_⟩) hS ?_
                    rotate_left
                    · intro V hV
                      have k0 := (hV.cell (p := ⟨w.heap.size + 1, 0, none⟩) hly).trans cy0
                      have k1 := (hV.cell (p := ⟨w.heap.size + 1, 1, none⟩) hly).trans cy1
                      have k2 := (hV.cell (p := ⟨w.heap.size + 1, 2, none⟩) hly).trans cy2
                      have k3 := (hV.cell (p := ⟨w.heap.size + 1, 3, none⟩) hly).trans cy3
                      go_simp
                      (try with_reducible rfl)
                    simp only [put_list, List.set_cons_succ, List.set_cons_zero]
                    as_aux_lemma =>
                      refine wpAnyH_takeL (i := 79) (v := ?_) rfl (by kernel_rfl) (by kernel_rfl) (by kernel_rfl) (fun _ _ _ h => h) (Or.inl ⟨by kernel_rfl, ?_⟩) hS ?_
                      rotate_left
                      · intro V hV
                        have k0 := (hV.cell (p := ⟨w.heap.size, 0, none⟩) hlx).trans cx0
                        have k1 := (hV.cell (p := ⟨w.heap.size, 1, none⟩) hlx).trans cx1
                        have k2 := (hV.cell (p := ⟨w.heap.size, 2, none⟩) hlx).trans cx2
                        have k3 := (hV.cell (p := ⟨w.heap.size, 3, none⟩) hlx).trans cx3
                        go_simp
                        (try with_reducible rfl)
                      simp only [put_list, List.set_cons_succ, List.set_cons_zero]
                      refine wpAnyH_takeL (i := 81) (v := ?_) rfl (by kernel_rfl) (by kernel_rfl) (by kernel_rfl) (fun _ _ _ h => h) (Or.inl ⟨by kernel_rfl, ?_⟩) hS ?_
                      rotate_left
                      · intro V hV
                        have k0 := (hV.cell (p := ⟨w.heap.size + 1, 0, none⟩) hly).trans cy0
                        have k1 := (hV.cell (p := ⟨w.heap.size + 1, 1, none⟩) hly).trans cy1
                        have k2 := (hV.cell (p := ⟨w.heap.size + 1, 2, none⟩) hly).trans cy2
                        have k3 := (hV.cell (p := ⟨w.heap.size + 1, 3, none⟩) hly).trans cy3
                        go_simp
                        (try with_reducible rfl)
                      simp only [put_list, List.set_cons_succ, List.set_cons_zero]
                      refine wpAnyH_takeL (i := 82) (v := ?_) rfl (by kernel_rfl) (by kernel_rfl) (by kernel_rfl) (fun _ _ _ h => h) (Or.inl ⟨by kernel_rfl, ?_⟩) hS ?_
                      rotate_left
                      · intro V hV
                        have k0 := (hV.cell (p := ⟨w.heap.size, 0, none⟩) hlx).trans cx0
                        have k1 := (hV.cell (p := ⟨w.heap.size, 1, none⟩) hlx).trans cx1
                        have k2 := (hV.cell (p := ⟨w.heap.size, 2, none⟩) hlx).trans cx2
                        have k3 := (hV.cell (p := ⟨w.heap.size, 3, none⟩) hlx).trans cx3
                        go_simp
                        (try with_reducible rfl)
                      simp only [put_list, List.set_cons_succ, List.set_cons_zero]
                      refine wpAnyH_ready (rs := [80]) (by kernel_rfl) (by simp) (AllReadyH.cons rfl (fun K hK => ?_) AllReadyH.nil)
                      go_simp
                      refine (Cps.out _).mono ?_
                      rintro e U26 ⟨rfl, hbc⟩
                      refine hK.out _ _ (hS.trans (hbc.mono hS.size)) (fun hS => ?_)
                      clear hK K hbc
                      refine wpAnyH_ready (rs := [83]) (by kernel_rfl) (by simp) (AllReadyH.cons rfl (fun K hK => ?_) AllReadyH.nil)
                      go_simp
                      refine (Cds.out _).mono ?_
                      rintro e U27 ⟨rfl, hbc⟩
                      refine hK.out _ _ (hS.trans (hbc.mono hS.size)) (fun hS => ?_)
                      clear hK K hbc
                      refine wpAnyH_ready (rs := [84]) (by kernel_rfl) (by simp) (AllReadyH.cons rfl (fun K hK => ?_) AllReadyH.nil)
                      go_simp
                      refine (Cms.out _).mono ?_
                      rintro e U28 ⟨rfl, hbc⟩
                      refine hK.out _ _ (hS.trans (hbc.mono hS.size)) (fun hS => ?_)
                      clear hK K hbc
                      refine wpAnyH_takeL (i := 85) (v := ?_) rfl (by kernel_rfl) (by kernel_rfl) (by kernel_rfl) (fun _ _ _ h => h) (Or.inl ⟨by kernel_rfl, ?_⟩) hS ?_
                      rotate_left
                      · intro V hV
                        go_simp
                        (try with_reducible rfl)
                      simp only [put_list, List.set_cons_succ, List.set_cons_zero]
                      refine wpAnyH_takeL (i := 86) (v := ?_) rfl (by kernel_rfl) (by kernel_rfl) (by kernel_rfl) (fun _ _ _ h => h) (Or.inl ⟨by kernel_rfl, ?_⟩) hS ?_
                      rotate_left
                      · intro V hV
                        go_simp
                        (try with_reducible rfl)
                      simp only [put_list, List.set_cons_succ, List.set_cons_zero]
                      as_aux_lemma =>
                        refine wpAnyH_takeL (i := 87) (v := ?_) rfl (by kernel_rfl) (by kernel_rfl) (by kernel_rfl) (fun _ _ _ h => h) (Or.inl ⟨by kernel_rfl, ?_⟩) hS ?_
                        rotate_left
                        · intro V hV
                          have k0 := (hV.cell (p := ⟨w.heap.size, 0, none⟩) hlx).trans cx0
                          have k1 := (hV.cell (p := ⟨w.heap.size, 1, none⟩) hlx).trans cx1
                          have k2 := (hV.cell (p := ⟨w.heap.size, 2, none⟩) hlx).trans cx2
                          have k3 := (hV.cell (p := ⟨w.heap.size, 3, none⟩) hlx).trans cx3
                          go_simp
                          (try with_reducible rfl)
                        simp only [put_list, List.set_cons_succ, List.set_cons_zero]
                        refine wpAnyH_takeL (i := 89) (v := ?_) rfl (by kernel_rfl) (by kernel_rfl) (by kernel_rfl) (fun _ _ _ h => h) (Or.inl ⟨by kernel_rfl, ?_⟩) hS ?_
                        rotate_left
                        · intro V hV
                          have k0 := (hV.cell (p := ⟨w.heap.size, 0, none⟩) hlx).trans cx0
                          have k1 := (hV.cell (p := ⟨w.heap.size, 1, none⟩) hlx).trans cx1
                          have k2 := (hV.cell (p := ⟨w.heap.size, 2, none⟩) hlx).trans cx2
                          have k3 := (hV.cell (p := ⟨w.heap.size, 3, none⟩) hlx).trans cx3
                          go_simp
                          (try with_reducible rfl)
                        simp only [put_list, List.set_cons_succ, List.set_cons_zero]
                        refine wpAnyH_ready (rs := [88]) (by kernel_rfl) (by simp) (AllReadyH.cons rfl (fun K hK => ?_) AllReadyH.nil)
                        go_simp
                        refine (Ck5.out _).mono ?_
                        rintro e U29 ⟨rfl, hbc⟩
                        refine hK.out _ _ (hS.trans (hbc.mono hS.size)) (fun hS => ?_)
                        clear hK K hbc
                        refine wpAnyH_ready (rs := [90]) (by kernel_rfl) (by simp) (AllReadyH.cons rfl (fun K hK => ?_) AllReadyH.nil)
                        go_simp
                        refine (Ck6.out _).mono ?_
                        rintro e U30 ⟨rfl, hbc⟩
                        refine hK.out _ _ (hS.trans (hbc.mono hS.size)) (fun hS => ?_)
                        clear hK K hbc
                        refine wpAnyH_takeL (i := 91) (v := ?_) rfl (by kernel_rfl) (by kernel_rfl) (by kernel_rfl) (fun _ _ _ h => h) (Or.inl ⟨by kernel_rfl, ?_⟩) hS ?_
                        rotate_left
                        · intro V hV
                          go_simp
                          (try with_reducible rfl)
                        simp only [put_list, List.set_cons_succ, List.set_cons_zero]
                        refine wpAnyH_takeL (i := 92) (v := ?_) rfl (by kernel_rfl) (by kernel_rfl) (by kernel_rfl) (fun _ _ _ h => h) (Or.inl ⟨by kernel_rfl, ?_⟩) hS ?_
                        rotate_left
                        · intro V hV
                          go_simp
                          (try with_reducible rfl)
                        simp only [put_list, List.set_cons_succ, List.set_cons_zero]
                        refine wpAnyH_takeL (i := 93) (v := ?_) rfl (by kernel_rfl) (by kernel_rfl) (by kernel_rfl) (fun _ _ _ h => h) (Or.inl ⟨by kernel_rfl, ?_⟩) hS ?_
                        rotate_left
                        · intro V hV
                          go_simp
                          (try with_reducible rfl)
                        simp only [put_list, List.set_cons_succ, List.set_cons_zero]
                        refine wpAnyH_ready (rs := [94]) (by kernel_rfl) (by simp) (AllReadyH.cons rfl (fun K hK => ?_) AllReadyH.nil)
                        go_simp
                        refine (CAW.out _).mono ?_
                        rintro e U31 ⟨rfl, hbc⟩
                        refine hK.out _ _ (hS.trans (hbc.mono hS.size)) (fun hS => ?_)
                        clear hK K hbc
                        as_aux_lemma =>
                          refine wpAnyH_takeL (i := 95) (v := ?_) rfl (by kernel_rfl) (by kernel_rfl) (by kernel_rfl) (fun _ _ _ h => h) (Or.inl ⟨by kernel_rfl, ?_⟩) hS ?_
                          rotate_left
                          · intro V hV
                            go_simp
                            (try with_reducible rfl)
                          simp only [put_list, List.set_cons_succ, List.set_cons_zero]
                          refine wpAnyH_ready (rs := [96]) (by kernel_rfl) (by simp) (AllReadyH.cons rfl (fun K hK => ?_) AllReadyH.nil)
                          go_simp
                          refine hK.out _ _ hS (fun hS => ?_)
                          clear hK K
                          refine wpAnyH_done (by kernel_rfl) ?_ _
                          go_wp2_with fail
                          go_ret
                          exact ⟨rfl, HBW.out.trans (hS.mono HBW.out.size)⟩

end Go.Proofs.Ytpnijncoldihfaa
