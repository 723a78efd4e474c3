/-
  Quotients and rests are the document's: the walk of the law.
-/
import Derived.Test.YtpnijncoldihfaaDividesC37
import Derived.Test.YtpnijncoldihfaaDividesC38
import Derived.Test.YtpnijncoldihfaaDividesC35
import Derived.Test.YtpnijncoldihfaaDividesC39
import Derived.Test.YtpnijncoldihfaaDividesC43
import Derived.Test.YtpnijncoldihfaaDividesC15
namespace Go.Proofs.Ytpnijncoldihfaa
open Go.RowKit Go.Shelf

set_option maxHeartbeats 16000000 in
set_option maxRecDepth 100000 in
theorem divides_calls (X Y N : Nat) (w : World) : Calls Try.prog 4 #[wv X, wv Y, wv N] w fun e w' => e = .returned (.bool true) ∧ Below w.heap.size w w' := by
  obtain ⟨x0, x1, x2, x3, hx⟩ := wv_form X
  obtain ⟨y0, y1, y2, y3, hy⟩ := wv_form Y
  obtain ⟨n0, n1, n2, n3, hn⟩ := wv_form N
  obtain ⟨q0, q1, q2, q3, hq⟩ := wv_form (X % M256 / (Y % M256))
  obtain ⟨r0, r1, r2, r3, hr⟩ := wv_form (restN (X % M256) (Y % M256))
  obtain ⟨s0, s1, s2, s3, hs⟩ := wv_form (signedN (negB X != negB Y) (sizeN X % M256 / (sizeN Y % M256)))
  obtain ⟨t0, t1, t2, t3, ht⟩ := wv_form (signedN (negB X) (restN (sizeN X % M256) (sizeN Y % M256)))
  obtain ⟨u0, u1, u2, u3, hu⟩ := wv_form (restN (X % M256 + Y % M256) (N % M256))
  obtain ⟨v0, v1, v2, v3, hv⟩ := wv_form (restN (X % M256 * (Y % M256)) (N % M256))
  have pq := fun W => div_any X Y W
  simp only [hx, hy, hq] at pq
  have Cpq := hideP pq
  clear pq
  have dq := fun W => refDiv_any X Y W
  simp only [hx, hy, hq] at dq
  have Cdq := hideP dq
  clear dq
  have mq := fun W => same_any (X % M256 / (Y % M256)) W
  simp only [hq] at mq
  have Cmq := hideP mq
  clear mq
  have pr := fun W => mod_any X Y W
  simp only [hx, hy, hr] at pr
  have Cpr := hideP pr
  clear pr
  have dr := fun W => refMod_any X Y W
  simp only [hx, hy, hr] at dr
  have Cdr := hideP dr
  clear dr
  have mr := fun W => same_any (restN (X % M256) (Y % M256)) W
  simp only [hr] at mr
  have Cmr := hideP mr
  clear mr
  have ps := fun W => sdiv_any X Y W
  simp only [hx, hy, hs] at ps
  have Cps := hideP ps
  clear ps
  have ds := fun W => refSdiv_any X Y W
  simp only [hx, hy, hs] at ds
  have Cds := hideP ds
  clear ds
  have ms := fun W => same_any (signedN (negB X != negB Y) (sizeN X % M256 / (sizeN Y % M256))) W
  simp only [hs] at ms
  have Cms := hideP ms
  clear ms
  have pt := fun W => smod_any X Y W
  simp only [hx, hy, ht] at pt
  have Cpt := hideP pt
  clear pt
  have dt := fun W => refSmod_any X Y W
  simp only [hx, hy, ht] at dt
  have Cdt := hideP dt
  clear dt
  have mt := fun W => same_any (signedN (negB X) (restN (sizeN X % M256) (sizeN Y % M256))) W
  simp only [ht] at mt
  have Cmt := hideP mt
  clear mt
  have pu := fun W => addMod_any X Y N W
  simp only [hx, hy, hn, hu] at pu
  have Cpu := hideP pu
  clear pu
  have du := fun W => refAddMod_any X Y N W
  simp only [hx, hy, hn, hu] at du
  have Cdu := hideP du
  clear du
  have mu := fun W => same_any (restN (X % M256 + Y % M256) (N % M256)) W
  simp only [hu] at mu
  have Cmu := hideP mu
  clear mu
  have pv := fun W => mulMod_any X Y N W
  simp only [hx, hy, hn, hv] at pv
  have Cpv := hideP pv
  clear pv
  have dv := fun W => refMulMod_any X Y N W
  simp only [hx, hy, hn, hv] at dv
  have Cdv := hideP dv
  clear dv
  have mv := fun W => same_any (restN (X % M256 * (Y % M256)) (N % M256)) W
  simp only [hv] at mv
  have Cmv := hideP mv
  clear mv
  have CAW := hideP (fun W => awake_any W)
  simp only [hx, hy, hn]
  clear hx hy hn hq hr hs ht hu hv
  go_enter Try.func4, Try.ntmps4
  go_wp2_with fail
  refine at_world_t (fun W0 hW0 => ?_)
  have HBx : Hid (W0.heap[w.heap.size]? = some (.cells #[.int .u64 x0, .int .u64 x1, .int .u64 x2, .int .u64 x3] 24 (0, 0))) := by
    rw [hW0]; show _ = _; simp only [World.alloc, Array.getElem?_push, Array.size_push]; simp [Nat.add_assoc]
  have HBy : Hid (W0.heap[w.heap.size + 1]? = some (.cells #[.int .u64 y0, .int .u64 y1, .int .u64 y2, .int .u64 y3] 24 (0, 0))) := by
    rw [hW0]; show _ = _; simp only [World.alloc, Array.getElem?_push, Array.size_push]; simp
  have HBn : Hid (W0.heap[w.heap.size + 1 + 1]? = some (.cells #[.int .u64 n0, .int .u64 n1, .int .u64 n2, .int .u64 n3] 24 (0, 0))) := by
    rw [hW0]; show _ = _; simp only [World.alloc, Array.getElem?_push, Array.size_push]; simp
  have HBW : Hid (Below w.heap.size w W0) := by
    show Below _ _ _
    rw [hW0]
    repeat first | exact Below.refl _ _ | (refine Below.alloc ?_ (by simp <;> omega) _)
  clear hW0
  obtain ⟨cx0, cx1, cx2, cx3⟩ := cells4 HBx.out
  have hlx := (Array.getElem?_eq_some_iff.1 HBx.out).1
  obtain ⟨cy0, cy1, cy2, cy3⟩ := cells4 HBy.out
  have hly := (Array.getElem?_eq_some_iff.1 HBy.out).1
  obtain ⟨cn0, cn1, cn2, cn3⟩ := cells4 HBn.out
  have hln := (Array.getElem?_eq_some_iff.1 HBn.out).1
  refine wp_region_heldS (S := fun V => Below W0.heap.size W0 V) (by kernel_rfl) (Below.refl _ _).drew (fun hS => ?_)
  refine wpAnyH_takeL (i := 0) (v := ?_) rfl (by kernel_rfl) (by kernel_rfl) (by kernel_rfl) (fun _ _ _ h => h) (Or.inl ⟨by kernel_rfl, ?_⟩) hS ?_
  rotate_left
  · intro V hV
    have k0 := (hV.cell (p := ⟨w.heap.size, 0, none⟩) hlx).trans cx0
    have k1 := (hV.cell (p := ⟨w.heap.size, 1, none⟩) hlx).trans cx1
    have k2 := (hV.cell (p := ⟨w.heap.size, 2, none⟩) hlx).trans cx2
    have k3 := (hV.cell (p := ⟨w.heap.size, 3, none⟩) hlx).trans cx3
    go_simp
    (try with_reducible rfl)
  simp only [put_list, List.set_cons_succ, List.set_cons_zero]
  refine wpAnyH_takeL (i := 1) (v := ?_) rfl (by kernel_rfl) (by kernel_rfl) (by kernel_rfl) (fun _ _ _ h => h) (Or.inl ⟨by kernel_rfl, ?_⟩) hS ?_
  rotate_left
  · intro V hV
    have k0 := (hV.cell (p := ⟨w.heap.size + 1, 0, none⟩) hly).trans cy0
    have k1 := (hV.cell (p := ⟨w.heap.size + 1, 1, none⟩) hly).trans cy1
    have k2 := (hV.cell (p := ⟨w.heap.size + 1, 2, none⟩) hly).trans cy2
    have k3 := (hV.cell (p := ⟨w.heap.size + 1, 3, none⟩) hly).trans cy3
    go_simp
    (try with_reducible rfl)
  simp only [put_list, List.set_cons_succ, List.set_cons_zero]
  refine wpAnyH_takeL (i := 3) (v := ?_) rfl (by kernel_rfl) (by kernel_rfl) (by kernel_rfl) (fun _ _ _ h => h) (Or.inl ⟨by kernel_rfl, ?_⟩) hS ?_
  rotate_left
  · intro V hV
    have k0 := (hV.cell (p := ⟨w.heap.size, 0, none⟩) hlx).trans cx0
    have k1 := (hV.cell (p := ⟨w.heap.size, 1, none⟩) hlx).trans cx1
    have k2 := (hV.cell (p := ⟨w.heap.size, 2, none⟩) hlx).trans cx2
    have k3 := (hV.cell (p := ⟨w.heap.size, 3, none⟩) hlx).trans cx3
    go_simp
    (try with_reducible rfl)
  simp only [put_list, List.set_cons_succ, List.set_cons_zero]
  refine wpAnyH_takeL (i := 4) (v := ?_) rfl (by kernel_rfl) (by kernel_rfl) (by kernel_rfl) (fun _ _ _ h => h) (Or.inl ⟨by kernel_rfl, ?_⟩) hS ?_
  rotate_left
  · intro V hV
    have k0 := (hV.cell (p := ⟨w.heap.size + 1, 0, none⟩) hly).trans cy0
    have k1 := (hV.cell (p := ⟨w.heap.size + 1, 1, none⟩) hly).trans cy1
    have k2 := (hV.cell (p := ⟨w.heap.size + 1, 2, none⟩) hly).trans cy2
    have k3 := (hV.cell (p := ⟨w.heap.size + 1, 3, none⟩) hly).trans cy3
    go_simp
    (try with_reducible rfl)
  simp only [put_list, List.set_cons_succ, List.set_cons_zero]
  refine wpAnyH_ready (rs := [2]) (by kernel_rfl) (by simp) (AllReadyH.cons rfl (fun K hK => ?_) AllReadyH.nil)
  go_simp
  refine (Cpq.out _).mono ?_
  rintro e U1 ⟨rfl, hbc⟩
  refine hK.out _ _ (hS.trans (hbc.mono hS.size)) (fun hS => ?_)
  clear hK K hbc
  refine wpAnyH_ready (rs := [5]) (by kernel_rfl) (by simp) (AllReadyH.cons rfl (fun K hK => ?_) AllReadyH.nil)
  go_simp
  refine (Cdq.out _).mono ?_
  rintro e U2 ⟨rfl, hbc⟩
  refine hK.out _ _ (hS.trans (hbc.mono hS.size)) (fun hS => ?_)
  clear hK K hbc
  refine wpAnyH_ready (rs := [6]) (by kernel_rfl) (by simp) (AllReadyH.cons rfl (fun K hK => ?_) AllReadyH.nil)
  go_simp
  refine (Cmq.out _).mono ?_
  rintro e U3 ⟨rfl, hbc⟩
  refine hK.out _ _ (hS.trans (hbc.mono hS.size)) (fun hS => ?_)
  clear hK K hbc
  as_aux_lemma =>
    refine wpAnyH_takeL (i := 7) (v := ?_) rfl (by kernel_rfl) (by kernel_rfl) (by kernel_rfl) (fun _ _ _ h => h) (Or.inl ⟨by kernel_rfl, ?_⟩) hS ?_
    rotate_left
    · intro V hV
      go_simp
      (try with_reducible rfl)
    simp only [put_list, List.set_cons_succ, List.set_cons_zero]
    refine wpAnyH_takeL (i := 8) (v := ?_) rfl (by kernel_rfl) (by kernel_rfl) (by kernel_rfl) (fun _ _ _ h => h) (Or.inl ⟨by kernel_rfl, ?_⟩) hS ?_
    rotate_left
    · intro V hV
      have k0 := (hV.cell (p := ⟨w.heap.size, 0, none⟩) hlx).trans cx0
      have k1 := (hV.cell (p := ⟨w.heap.size, 1, none⟩) hlx).trans cx1
      have k2 := (hV.cell (p := ⟨w.heap.size, 2, none⟩) hlx).trans cx2
      have k3 := (hV.cell (p := ⟨w.heap.size, 3, none⟩) hlx).trans cx3
      go_simp
      (try with_reducible rfl)
    simp only [put_list, List.set_cons_succ, List.set_cons_zero]
    refine wpAnyH_takeL (i := 9) (v := ?_) rfl (by kernel_rfl) (by kernel_rfl) (by kernel_rfl) (fun _ _ _ h => h) (Or.inl ⟨by kernel_rfl, ?_⟩) hS ?_
    rotate_left
    · intro V hV
      have k0 := (hV.cell (p := ⟨w.heap.size + 1, 0, none⟩) hly).trans cy0
      have k1 := (hV.cell (p := ⟨w.heap.size + 1, 1, none⟩) hly).trans cy1
      have k2 := (hV.cell (p := ⟨w.heap.size + 1, 2, none⟩) hly).trans cy2
      have k3 := (hV.cell (p := ⟨w.heap.size + 1, 3, none⟩) hly).trans cy3
      go_simp
      (try with_reducible rfl)
    simp only [put_list, List.set_cons_succ, List.set_cons_zero]
    refine wpAnyH_takeL (i := 11) (v := ?_) rfl (by kernel_rfl) (by kernel_rfl) (by kernel_rfl) (fun _ _ _ h => h) (Or.inl ⟨by kernel_rfl, ?_⟩) hS ?_
    rotate_left
    · intro V hV
      have k0 := (hV.cell (p := ⟨w.heap.size, 0, none⟩) hlx).trans cx0
      have k1 := (hV.cell (p := ⟨w.heap.size, 1, none⟩) hlx).trans cx1
      have k2 := (hV.cell (p := ⟨w.heap.size, 2, none⟩) hlx).trans cx2
      have k3 := (hV.cell (p := ⟨w.heap.size, 3, none⟩) hlx).trans cx3
      go_simp
      (try with_reducible rfl)
    simp only [put_list, List.set_cons_succ, List.set_cons_zero]
    refine wpAnyH_takeL (i := 12) (v := ?_) rfl (by kernel_rfl) (by kernel_rfl) (by kernel_rfl) (fun _ _ _ h => h) (Or.inl ⟨by kernel_rfl, ?_⟩) hS ?_
    rotate_left
    · intro V hV
      have k0 := (hV.cell (p := ⟨w.heap.size + 1, 0, none⟩) hly).trans cy0
      have k1 := (hV.cell (p := ⟨w.heap.size + 1, 1, none⟩) hly).trans cy1
      have k2 := (hV.cell (p := ⟨w.heap.size + 1, 2, none⟩) hly).trans cy2
      have k3 := (hV.cell (p := ⟨w.heap.size + 1, 3, none⟩) hly).trans cy3
      go_simp
      (try with_reducible rfl)
    simp only [put_list, List.set_cons_succ, List.set_cons_zero]
    refine wpAnyH_ready (rs := [10]) (by kernel_rfl) (by simp) (AllReadyH.cons rfl (fun K hK => ?_) AllReadyH.nil)
    go_simp
    refine (Cpr.out _).mono ?_
    rintro e U4 ⟨rfl, hbc⟩
    refine hK.out _ _ (hS.trans (hbc.mono hS.size)) (fun hS => ?_)
    clear hK K hbc
    refine wpAnyH_ready (rs := [13]) (by kernel_rfl) (by simp) (AllReadyH.cons rfl (fun K hK => ?_) AllReadyH.nil)
    go_simp
    refine (Cdr.out _).mono ?_
    rintro e U5 ⟨rfl, hbc⟩
    refine hK.out _ _ (hS.trans (hbc.mono hS.size)) (fun hS => ?_)
    clear hK K hbc
    refine wpAnyH_ready (rs := [14]) (by kernel_rfl) (by simp) (AllReadyH.cons rfl (fun K hK => ?_) AllReadyH.nil)
    go_simp
    refine (Cmr.out _).mono ?_
    rintro e U6 ⟨rfl, hbc⟩
    refine hK.out _ _ (hS.trans (hbc.mono hS.size)) (fun hS => ?_)
    clear hK K hbc
    as_aux_lemma =>
      refine wpAnyH_takeL (i := 15) (v := ?_) rfl (by kernel_rfl) (by kernel_rfl) (by kernel_rfl) (fun _ _ _ h => h) (Or.inl ⟨by kernel_rfl, ?_⟩) hS ?_
      rotate_left
      · intro V hV
        go_simp
        (try with_reducible rfl)
      simp only [put_list, List.set_cons_succ, List.set_cons_zero]
      refine wpAnyH_takeL (i := 16) (v := ?_) rfl (by kernel_rfl) (by kernel_rfl) (by kernel_rfl) (fun _ _ _ h => h) (Or.inl ⟨by kernel_rfl, ?_⟩) hS ?_
      rotate_left
      · intro V hV
        go_simp
        (try with_reducible rfl)
      simp only [put_list, List.set_cons_succ, List.set_cons_zero]
      refine wpAnyH_takeL (i := 17) (v := ?_) rfl (by kernel_rfl) (by kernel_rfl) (by kernel_rfl) (fun _ _ _ h => h) (Or.inl ⟨by kernel_rfl, ?_⟩) hS ?_
      rotate_left
      · intro V hV
        have k0 := (hV.cell (p := ⟨w.heap.size, 0, none⟩) hlx).trans cx0
        have k1 := (hV.cell (p := ⟨w.heap.size, 1, none⟩) hlx).trans cx1
        have k2 := (hV.cell (p := ⟨w.heap.size, 2, none⟩) hlx).trans cx2
        have k3 := (hV.cell (p := ⟨w.heap.size, 3, none⟩) hlx).trans cx3
        go_simp
        (try with_reducible rfl)
      simp only [put_list, List.set_cons_succ, List.set_cons_zero]
      refine wpAnyH_takeL (i := 18) (v := ?_) rfl (by kernel_rfl) (by kernel_rfl) (by kernel_rfl) (fun _ _ _ h => h) (Or.inl ⟨by kernel_rfl, ?_⟩) hS ?_
      rotate_left
      · intro V hV
        have k0 := (hV.cell (p := ⟨w.heap.size + 1, 0, none⟩) hly).trans cy0
        have k1 := (hV.cell (p := ⟨w.heap.size + 1, 1, none⟩) hly).trans cy1
        have k2 := (hV.cell (p := ⟨w.heap.size + 1, 2, none⟩) hly).trans cy2
        have k3 := (hV.cell (p := ⟨w.heap.size + 1, 3, none⟩) hly).trans cy3
        go_simp
        (try with_reducible rfl)
      simp only [put_list, List.set_cons_succ, List.set_cons_zero]
      refine wpAnyH_takeL (i := 20) (v := ?_) rfl (by kernel_rfl) (by kernel_rfl) (by kernel_rfl) (fun _ _ _ h => h) (Or.inl ⟨by kernel_rfl, ?_⟩) hS ?_
      rotate_left
      · intro V hV
        have k0 := (hV.cell (p := ⟨w.heap.size, 0, none⟩) hlx).trans cx0
        have k1 := (hV.cell (p := ⟨w.heap.size, 1, none⟩) hlx).trans cx1
        have k2 := (hV.cell (p := ⟨w.heap.size, 2, none⟩) hlx).trans cx2
        have k3 := (hV.cell (p := ⟨w.heap.size, 3, none⟩) hlx).trans cx3
        go_simp
        (try with_reducible rfl)
      simp only [put_list, List.set_cons_succ, List.set_cons_zero]
      refine wpAnyH_takeL (i := 21) (v := ?_) rfl (by kernel_rfl) (by kernel_rfl) (by kernel_rfl) (fun _ _ _ h => h) (Or.inl ⟨by kernel_rfl, ?_⟩) hS ?_
      rotate_left
      · intro V hV
        have k0 := (hV.cell (p := ⟨w.heap.size + 1, 0, none⟩) hly).trans cy0
        have k1 := (hV.cell (p := ⟨w.heap.size + 1, 1, none⟩) hly).trans cy1
        have k2 := (hV.cell (p := ⟨w.heap.size + 1, 2, none⟩) hly).trans cy2
        have k3 := (hV.cell (p := ⟨w.heap.size + 1, 3, none⟩) hly).trans cy3
        go_simp
        (try with_reducible rfl)
      simp only [put_list, List.set_cons_succ, List.set_cons_zero]
      refine wpAnyH_ready (rs := [19]) (by kernel_rfl) (by simp) (AllReadyH.cons rfl (fun K hK => ?_) AllReadyH.nil)
      go_simp
      refine (Cps.out _).mono ?_
      rintro e U7 ⟨rfl, hbc⟩
      refine hK.out _ _ (hS.trans (hbc.mono hS.size)) (fun hS => ?_)
      clear hK K hbc
      refine wpAnyH_ready (rs := [22]) (by kernel_rfl) (by simp) (AllReadyH.cons rfl (fun K hK => ?_) AllReadyH.nil)
      go_simp
      refine (Cds.out _).mono ?_
      rintro e U8 ⟨rfl, hbc⟩
      refine hK.out _ _ (hS.trans (hbc.mono hS.size)) (fun hS => ?_)
      clear hK K hbc
      as_aux_lemma =>
        refine wpAnyH_ready (rs := [23]) (by kernel_rfl) (by simp) (AllReadyH.cons rfl (fun K hK => ?_) AllReadyH.nil)
        go_simp
        refine (Cms.out _).mono ?_
        rintro e U9 ⟨rfl, hbc⟩
        refine hK.out _ _ (hS.trans (hbc.mono hS.size)) (fun hS => ?_)
        clear hK K hbc
        refine wpAnyH_takeL (i := 24) (v := ?_) rfl (by kernel_rfl) (by kernel_rfl) (by kernel_rfl) (fun _ _ _ h => h) (Or.inl ⟨by kernel_rfl, ?_⟩) hS ?_
        rotate_left
        · intro V hV
          go_simp
          (try with_reducible rfl)
        simp only [put_list, List.set_cons_succ, List.set_cons_zero]
        refine wpAnyH_takeL (i := 25) (v := ?_) rfl (by kernel_rfl) (by kernel_rfl) (by kernel_rfl) (fun _ _ _ h => h) (Or.inl ⟨by kernel_rfl, ?_⟩) hS ?_
        rotate_left
        · intro V hV
          go_simp
          (try with_reducible rfl)
        simp only [put_list, List.set_cons_succ, List.set_cons_zero]
        refine wpAnyH_takeL (i := 26) (v := ?_) rfl (by kernel_rfl) (by kernel_rfl) (by kernel_rfl) (fun _ _ _ h => h) (Or.inl ⟨by kernel_rfl, ?_⟩) hS ?_
        rotate_left
        · intro V hV
          have k0 := (hV.cell (p := ⟨w.heap.size, 0, none⟩) hlx).trans cx0
          have k1 := (hV.cell (p := ⟨w.heap.size, 1, none⟩) hlx).trans cx1
          have k2 := (hV.cell (p := ⟨w.heap.size, 2, none⟩) hlx).trans cx2
          have k3 := (hV.cell (p := ⟨w.heap.size, 3, none⟩) hlx).trans cx3
          go_simp
          (try with_reducible rfl)
        simp only [put_list, List.set_cons_succ, List.set_cons_zero]
        refine wpAnyH_takeL (i := 27) (v := ?_) rfl (by kernel_rfl) (by kernel_rfl) (by kernel_rfl) (fun _ _ _ h => h) (Or.inl ⟨by kernel_rfl, ?_⟩) hS ?_
        rotate_left
        · intro V hV
          have k0 := (hV.cell (p := ⟨w.heap.size + 1, 0, none⟩) hly).trans cy0
          have k1 := (hV.cell (p := ⟨w.heap.size + 1, 1, none⟩) hly).trans cy1
          have k2 := (hV.cell (p := ⟨w.heap.size + 1, 2, none⟩) hly).trans cy2
          have k3 := (hV.cell (p := ⟨w.heap.size + 1, 3, none⟩) hly).trans cy3
          go_simp
          (try with_reducible rfl)
        simp only [put_list, List.set_cons_succ, List.set_cons_zero]
        refine wpAnyH_takeL (i := 29) (v := ?_) rfl (by kernel_rfl) (by kernel_rfl) (by kernel_rfl) (fun _ _ _ h => h) (Or.inl ⟨by kernel_rfl, ?_⟩) hS ?_
        rotate_left
        · intro V hV
          have k0 := (hV.cell (p := ⟨w.heap.size, 0, none⟩) hlx).trans cx0
          have k1 := (hV.cell (p := ⟨w.heap.size, 1, none⟩) hlx).trans cx1
          have k2 := (hV.cell (p := ⟨w.heap.size, 2, none⟩) hlx).trans cx2
          have k3 := (hV.cell (p := ⟨w.heap.size, 3, none⟩) hlx).trans cx3
          go_simp
          (try with_reducible rfl)
        simp only [put_list, List.set_cons_succ, List.set_cons_zero]
        refine wpAnyH_takeL (i := 30) (v := ?_) rfl (by kernel_rfl) (by kernel_rfl) (by kernel_rfl) (fun _ _ _ h => h) (Or.inl ⟨by kernel_rfl, ?_⟩) hS ?_
        rotate_left
        · intro V hV
          have k0 := (hV.cell (p := ⟨w.heap.size + 1, 0, none⟩) hly).trans cy0
          have k1 := (hV.cell (p := ⟨w.heap.size + 1, 1, none⟩) hly).trans cy1
          have k2 := (hV.cell (p := ⟨w.heap.size + 1, 2, none⟩) hly).trans cy2
          have k3 := (hV.cell (p := ⟨w.heap.size + 1, 3, none⟩) hly).trans cy3
          go_simp
          (try with_reducible rfl)
        simp only [put_list, List.set_cons_succ, List.set_cons_zero]
        refine wpAnyH_ready (rs := [28]) (by kernel_rfl) (by simp) (AllReadyH.cons rfl (fun K hK => ?_) AllReadyH.nil)
        go_simp
        refine (Cpt.out _).mono ?_
        rintro e U10 ⟨rfl, hbc⟩
        refine hK.out _ _ (hS.trans (hbc.mono hS.size)) (fun hS => ?_)
        clear hK K hbc
        as_aux_lemma =>
          refine wpAnyH_ready (rs := [31]) (by kernel_rfl) (by simp) (AllReadyH.cons rfl (fun K hK => ?_) AllReadyH.nil)
          go_simp
          refine (Cdt.out _).mono ?_
          rintro e U11 ⟨rfl, hbc⟩
          refine hK.out _ _ (hS.trans (hbc.mono hS.size)) (fun hS => ?_)
          clear hK K hbc
          refine wpAnyH_ready (rs := [32]) (by kernel_rfl) (by simp) (AllReadyH.cons rfl (fun K hK => ?_) AllReadyH.nil)
          go_simp
          refine (Cmt.out _).mono ?_
          rintro e U12 ⟨rfl, hbc⟩
          refine hK.out _ _ (hS.trans (hbc.mono hS.size)) (fun hS => ?_)
          clear hK K hbc
          refine wpAnyH_takeL (i := 33) (v := ?_) rfl (by kernel_rfl) (by kernel_rfl) (by kernel_rfl) (fun _ _ _ h => h) (Or.inl ⟨by kernel_rfl, ?_⟩) hS ?_
          rotate_left
          · intro V hV
            go_simp
            (try with_reducible rfl)
          simp only [put_list, List.set_cons_succ, List.set_cons_zero]
          refine wpAnyH_takeL (i := 34) (v := ?_) rfl (by kernel_rfl) (by kernel_rfl) (by kernel_rfl) (fun _ _ _ h => h) (Or.inl ⟨by kernel_rfl, ?_⟩) hS ?_
          rotate_left
          · intro V hV
            go_simp
            (try with_reducible rfl)
          simp only [put_list, List.set_cons_succ, List.set_cons_zero]
          refine wpAnyH_takeL (i := 35) (v := ?_) rfl (by kernel_rfl) (by kernel_rfl) (by kernel_rfl) (fun _ _ _ h => h) (Or.inl ⟨by kernel_rfl, ?_⟩) hS ?_
          rotate_left
          · intro V hV
            have k0 := (hV.cell (p := ⟨w.heap.size, 0, none⟩) hlx).trans cx0
            have k1 := (hV.cell (p := ⟨w.heap.size, 1, none⟩) hlx).trans cx1
            have k2 := (hV.cell (p := ⟨w.heap.size, 2, none⟩) hlx).trans cx2
            have k3 := (hV.cell (p := ⟨w.heap.size, 3, none⟩) hlx).trans cx3
            go_simp
            (try with_reducible rfl)
          simp only [put_list, List.set_cons_succ, List.set_cons_zero]
          refine wpAnyH_takeL (i := 36) (v := ?_) rfl (by kernel_rfl) (by kernel_rfl) (by kernel_rfl) (fun _ _ _ h => h) (Or.inl ⟨by kernel_rfl, ?_⟩) hS ?_
          rotate_left
          · intro V hV
            have k0 := (hV.cell (p := ⟨w.heap.size + 1, 0, none⟩) hly).trans cy0
            have k1 := (hV.cell (p := ⟨w.heap.size + 1, 1, none⟩) hly).trans cy1
            have k2 := (hV.cell (p := ⟨w.heap.size + 1, 2, none⟩) hly).trans cy2
            have k3 := (hV.cell (p := ⟨w.heap.size + 1, 3, none⟩) hly).trans cy3
            go_simp
            (try with_reducible rfl)
          simp only [put_list, List.set_cons_succ, List.set_cons_zero]
          refine wpAnyH_takeL (i := 37) (v := ?_) rfl (by kernel_rfl) (by kernel_rfl) (by kernel_rfl) (fun _ _ _ h => h) (Or.inl ⟨by kernel_rfl, ?_⟩) hS ?_
          rotate_left
          · intro V hV
            have k0 := (hV.cell (p := ⟨w.heap.size + 1 + 1, 0, none⟩) hln).trans cn0
            have k1 := (hV.cell (p := ⟨w.heap.size + 1 + 1, 1, none⟩) hln).trans cn1
            have k2 := (hV.cell (p := ⟨w.heap.size + 1 + 1, 2, none⟩) hln).trans cn2
            have k3 := (hV.cell (p := ⟨w.heap.size + 1 + 1, 3, none⟩) hln).trans cn3
            go_simp
            (try with_reducible rfl)
          simp only [put_list, List.set_cons_succ, List.set_cons_zero]
          refine wpAnyH_takeL (i := 39) (v := ?_) rfl (by kernel_rfl) (by kernel_rfl) (by kernel_rfl) (fun _ _ _ h => h) (Or.inl ⟨by kernel_rfl, ?_⟩) hS ?_
          rotate_left
          · intro V hV
            have k0 := (hV.cell (p := ⟨w.heap.size, 0, none⟩) hlx).trans cx0
            have k1 := (hV.cell (p := ⟨w.heap.size, 1, none⟩) hlx).trans cx1
            have k2 := (hV.cell (p := ⟨w.heap.size, 2, none⟩) hlx).trans cx2
            have k3 := (hV.cell (p := ⟨w.heap.size, 3, none⟩) hlx).trans cx3
            go_simp
            (try with_reducible rfl)
          simp only [put_list, List.set_cons_succ, List.set_cons_zero]
          as_aux_lemma =>
            refine wpAnyH_takeL (i := 40) (v := ?_) rfl (by kernel_rfl) (by kernel_rfl) (by kernel_rfl) (fun _ _ _ h => h) (Or.inl ⟨by kernel_rfl, ?_⟩) hS ?_
            rotate_left
            · intro V hV
              have k0 := (hV.cell (p := ⟨w.heap.size + 1, 0, none⟩) hly).trans cy0
              have k1 := (hV.cell (p := ⟨w.heap.size + 1, 1, none⟩) hly).trans cy1
              have k2 := (hV.cell (p := ⟨w.heap.size + 1, 2, none⟩) hly).trans cy2
              have k3 := (hV.cell (p := ⟨w.heap.size + 1, 3, none⟩) hly).trans cy3
              go_simp
              (try with_reducible rfl)
            simp only [put_list, List.set_cons_succ, List.set_cons_zero]
            refine wpAnyH_takeL (i := 41) (v := ?_) rfl (by kernel_rfl) (by kernel_rfl) (by kernel_rfl) (fun _ _ _ h => h) (Or.inl ⟨by kernel_rfl, ?_⟩) hS ?_
            rotate_left
            · intro V hV
              have k0 := (hV.cell (p := ⟨w.heap.size + 1 + 1, 0, none⟩) hln).trans cn0
              have k1 := (hV.cell (p := ⟨w.heap.size + 1 + 1, 1, none⟩) hln).trans cn1
              have k2 := (hV.cell (p := ⟨w.heap.size + 1 + 1, 2, none⟩) hln).trans cn2
              have k3 := (hV.cell (p := ⟨w.heap.size + 1 + 1, 3, none⟩) hln).trans cn3
              go_simp
              (try with_reducible rfl)
            simp only [put_list, List.set_cons_succ, List.set_cons_zero]
            refine wpAnyH_ready (rs := [38]) (by kernel_rfl) (by simp) (AllReadyH.cons rfl (fun K hK => ?_) AllReadyH.nil)
            go_simp
            refine (Cpu.out _).mono ?_
            rintro e U13 ⟨rfl, hbc⟩
            refine hK.out _ _ (hS.trans (hbc.mono hS.size)) (fun hS => ?_)
            clear hK K hbc
            refine wpAnyH_ready (rs := [42]) (by kernel_rfl) (by simp) (AllReadyH.cons rfl (fun K hK => ?_) AllReadyH.nil)
            go_simp
            refine (Cdu.out _).mono ?_
            rintro e U14 ⟨rfl, hbc⟩
            refine hK.out _ _ (hS.trans (hbc.mono hS.size)) (fun hS => ?_)
            clear hK K hbc
            refine wpAnyH_ready (rs := [43]) (by kernel_rfl) (by simp) (AllReadyH.cons rfl (fun K hK => ?_) AllReadyH.nil)
            go_simp
            refine (Cmu.out _).mono ?_
            rintro e U15 ⟨rfl, hbc⟩
            refine hK.out _ _ (hS.trans (hbc.mono hS.size)) (fun hS => ?_)
            clear hK K hbc
            refine wpAnyH_takeL (i := 44) (v := ?_) rfl (by kernel_rfl) (by kernel_rfl) (by kernel_rfl) (fun _ _ _ h => h) (Or.inl ⟨by kernel_rfl, ?_⟩) hS ?_
            rotate_left
            · intro V hV
              go_simp
              (try with_reducible rfl)
            simp only [put_list, List.set_cons_succ, List.set_cons_zero]
            refine wpAnyH_takeL (i := 45) (v := ?_) rfl (by kernel_rfl) (by kernel_rfl) (by kernel_rfl) (fun _ _ _ h => h) (Or.inl ⟨by kernel_rfl, ?_⟩) hS ?_
            rotate_left
            · intro V hV
              go_simp
              (try with_reducible rfl)
            simp only [put_list, List.set_cons_succ, List.set_cons_zero]
            refine wpAnyH_takeL (i := 46) (v := ?_) rfl (by kernel_rfl) (by kernel_rfl) (by kernel_rfl) (fun _ _ _ h => h) (Or.inl ⟨by kernel_rfl, ?_⟩) hS ?_
            rotate_left
            · intro V hV
              have k0 := (hV.cell (p := ⟨w.heap.size, 0, none⟩) hlx).trans cx0
              have k1 := (hV.cell (p := ⟨w.heap.size, 1, none⟩) hlx).trans cx1
              have k2 := (hV.cell (p := ⟨w.heap.size, 2, none⟩) hlx).trans cx2
              have k3 := (hV.cell (p := ⟨w.heap.size, 3, none⟩) hlx).trans cx3
              go_simp
              (try with_reducible rfl)
            simp only [put_list, List.set_cons_succ, List.set_cons_zero]
            as_aux_lemma =>
              refine wpAnyH_takeL (i := 47) (v := ?_) rfl (by kernel_rfl) (by kernel_rfl) (by kernel_rfl) (fun _ _ _ h => h) (Or.inl ⟨by kernel_rfl, ?_⟩) hS ?_
              rotate_left
              · intro V hV
                have k0 := (hV.cell (p := ⟨w.heap.size + 1, 0, none⟩) hly).trans cy0
                have k1 := (hV.cell (p := ⟨w.heap.size + 1, 1, none⟩) hly).trans cy1
                have k2 := (hV.cell (p := ⟨w.heap.size + 1, 2, none⟩) hly).trans cy2
                have k3 := (hV.cell (p := ⟨w.heap.size + 1, 3, none⟩) hly).trans cy3
                go_simp
                (try with_reducible rfl)
              simp only [put_list, List.set_cons_succ, List.set_cons_zero]
              refine wpAnyH_takeL (i := 48) (v := ?_) rfl (by kernel_rfl) (by kernel_rfl) (by kernel_rfl) (fun _ _ _ h => h) (Or.inl ⟨by kernel_rfl, ?_⟩) hS ?_
              rotate_left
              · intro V hV
                have k0 := (hV.cell (p := ⟨w.heap.size + 1 + 1, 0, none⟩) hln).trans cn0
                have k1 := (hV.cell (p := ⟨w.heap.size + 1 + 1, 1, none⟩) hln).trans cn1
                have k2 := (hV.cell (p := ⟨w.heap.size + 1 + 1, 2, none⟩) hln).trans cn2
                have k3 := (hV.cell (p := ⟨w.heap.size + 1 + 1, 3, none⟩) hln).trans cn3
                go_simp
                (try with_reducible rfl)
              simp only [put_list, List.set_cons_succ, List.set_cons_zero]
              refine wpAnyH_takeL (i := 50) (v := ?_) rfl (by kernel_rfl) (by kernel_rfl) (by kernel_rfl) (fun _ _ _ h => h) (Or.inl ⟨by kernel_rfl, ?_⟩) hS ?_
              rotate_left
              · intro V hV
                have k0 := (hV.cell (p := ⟨w.heap.size, 0, none⟩) hlx).trans cx0
                have k1 := (hV.cell (p := ⟨w.heap.size, 1, none⟩) hlx).trans cx1
                have k2 := (hV.cell (p := ⟨w.heap.size, 2, none⟩) hlx).trans cx2
                have k3 := (hV.cell (p := ⟨w.heap.size, 3, none⟩) hlx).trans cx3
                go_simp
                (try with_reducible rfl)
              simp only [put_list, List.set_cons_succ, List.set_cons_zero]
              refine wpAnyH_takeL (i := 51) (v := ?_) rfl (by kernel_rfl) (by kernel_rfl) (by kernel_rfl) (fun _ _ _ h => h) (Or.inl ⟨by kernel_rfl, ?_⟩) hS ?_
              rotate_left
              · intro V hV
                have k0 := (hV.cell (p := ⟨w.heap.size + 1, 0, none⟩) hly).trans cy0
                have k1 := (hV.cell (p := ⟨w.heap.size + 1, 1, none⟩) hly).trans cy1
                have k2 := (hV.cell (p := ⟨w.heap.size + 1, 2, none⟩) hly).trans cy2
                have k3 := (hV.cell (p := ⟨w.heap.size + 1, 3, none⟩) hly).trans cy3
                go_simp
                (try with_reducible rfl)
              simp only [put_list, List.set_cons_succ, List.set_cons_zero]
              refine wpAnyH_takeL (i := 52) (v := ?_) rfl (by kernel_rfl) (by kernel_rfl) (by kernel_rfl) (fun _ _ _ h => h) (Or.inl ⟨by kernel_rfl, ?_⟩) hS ?_
              rotate_left
              · intro V hV
                have k0 := (hV.cell (p := ⟨w.heap.size + 1 + 1, 0, none⟩) hln).trans cn0
                have k1 := (hV.cell (p := ⟨w.heap.size + 1 + 1, 1, none⟩) hln).trans cn1
                have k2 := (hV.cell (p := ⟨w.heap.size + 1 + 1, 2, none⟩) hln).trans cn2
                have k3 := (hV.cell (p := ⟨w.heap.size + 1 + 1, 3, none⟩) hln).trans cn3
                go_simp
                (try with_reducible rfl)
              simp only [put_list, List.set_cons_succ, List.set_cons_zero]
              refine wpAnyH_ready (rs := [49]) (by kernel_rfl) (by simp) (AllReadyH.cons rfl (fun K hK => ?_) AllReadyH.nil)
              go_simp
              refine (Cpv.out _).mono ?_
              rintro e U16 ⟨rfl, hbc⟩
              refine hK.out _ _ (hS.trans (hbc.mono hS.size)) (fun hS => ?_)
              clear hK K hbc
              refine wpAnyH_ready (rs := [53]) (by kernel_rfl) (by simp) (AllReadyH.cons rfl (fun K hK => ?_) AllReadyH.nil)
              go_simp
              refine (Cdv.out _).mono ?_
              rintro e U17 ⟨rfl, hbc⟩
              refine hK.out _ _ (hS.trans (hbc.mono hS.size)) (fun hS => ?_)
              clear hK K hbc
              refine wpAnyH_ready (rs := [54]) (by kernel_rfl) (by simp) (AllReadyH.cons rfl (fun K hK => ?_) AllReadyH.nil)
              go_simp
              refine (Cmv.out _).mono ?_
              rintro e U18 ⟨rfl, hbc⟩
              refine hK.out _ _ (hS.trans (hbc.mono hS.size)) (fun hS => ?_)
              clear hK K hbc
              as_aux_lemma =>
                refine wpAnyH_takeL (i := 55) (v := ?_) rfl (by kernel_rfl) (by kernel_rfl) (by kernel_rfl) (fun _ _ _ h => h) (Or.inl ⟨by kernel_rfl, ?_⟩) hS ?_
                rotate_left
                · intro V hV
                  go_simp
                  (try with_reducible rfl)
                simp only [put_list, List.set_cons_succ, List.set_cons_zero]
                refine wpAnyH_takeL (i := 56) (v := ?_) rfl (by kernel_rfl) (by kernel_rfl) (by kernel_rfl) (fun _ _ _ h => h) (Or.inl ⟨by kernel_rfl, ?_⟩) hS ?_
                rotate_left
                · intro V hV
                  go_simp
                  (try with_reducible rfl)
                simp only [put_list, List.set_cons_succ, List.set_cons_zero]
                refine wpAnyH_ready (rs := [57]) (by kernel_rfl) (by simp) (AllReadyH.cons rfl (fun K hK => ?_) AllReadyH.nil)
                go_simp
                refine (CAW.out _).mono ?_
                rintro e U19 ⟨rfl, hbc⟩
                refine hK.out _ _ (hS.trans (hbc.mono hS.size)) (fun hS => ?_)
                clear hK K hbc
                refine wpAnyH_takeL (i := 58) (v := ?_) rfl (by kernel_rfl) (by kernel_rfl) (by kernel_rfl) (fun _ _ _ h => h) (Or.inl ⟨by kernel_rfl, ?_⟩) hS ?_
                rotate_left
                · intro V hV
                  go_simp
                  (try with_reducible rfl)
                simp only [put_list, List.set_cons_succ, List.set_cons_zero]
                refine wpAnyH_ready (rs := [59]) (by kernel_rfl) (by simp) (AllReadyH.cons rfl (fun K hK => ?_) AllReadyH.nil)
                go_simp
                refine hK.out _ _ hS (fun hS => ?_)
                clear hK K
                refine wpAnyH_done (by kernel_rfl) ?_ _
                go_wp2_with fail
                go_ret
                exact ⟨rfl, HBW.out.trans (hS.mono HBW.out.size)⟩

end Go.Proofs.Ytpnijncoldihfaa
