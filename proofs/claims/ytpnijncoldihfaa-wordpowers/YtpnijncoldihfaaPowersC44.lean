/-
  Powers and extended signs are the document's: the walk of the law.
-/
import Derived.Test.YtpnijncoldihfaaPowersC26
import Derived.Test.YtpnijncoldihfaaPowersC33
import Derived.Test.YtpnijncoldihfaaPowersC23
import Derived.Test.YtpnijncoldihfaaPowersC39
import Derived.Test.YtpnijncoldihfaaPowersC31
import Derived.Test.YtpnijncoldihfaaPowersC43
import Derived.Test.YtpnijncoldihfaaPowersC20
namespace Go.Proofs.Ytpnijncoldihfaa
open Go.RowKit Go.Shelf

set_option maxHeartbeats 16000000 in
set_option maxRecDepth 100000 in
theorem powers_calls (X Y : Nat) (w : World) : Calls Try.prog 5 #[wv X, wv Y] w fun e w' => e = .returned (.bool true) ∧ Below w.heap.size w w' := by
  obtain ⟨x0, x1, x2, x3, hx⟩ := wv_form X
  obtain ⟨y0, y1, y2, y3, hy⟩ := wv_form Y
  obtain ⟨p0, p1, p2, p3, hp⟩ := wv_form (X ^ (Y % M256))
  obtain ⟨s0, s1, s2, s3, hs⟩ := wv_form (signN (Y % M256) X)
  have pp := fun W => exp_any X Y W
  simp only [hx, hy, hp] at pp
  have Cpp := hideP pp
  clear pp
  have dp := fun W => refExp_any X Y W
  simp only [hx, hy, hp] at dp
  have Cdp := hideP dp
  clear dp
  have mp := fun W => same_any (X ^ (Y % M256)) W
  simp only [hp] at mp
  have Cmp := hideP mp
  clear mp
  have ps := fun W => signExtend_any Y X W
  simp only [hx, hy, hs] at ps
  have Cps := hideP ps
  clear ps
  have ds := fun W => refSignExtend_any Y X W
  simp only [hx, hy, hs] at ds
  have Cds := hideP ds
  clear ds
  have ms := fun W => same_any (signN (Y % M256) X) W
  simp only [hs] at ms
  have Cms := hideP ms
  clear ms
  have CAW := hideP (fun W => awake_any W)
  simp only [hx, hy]
  clear hx hy hp hs
  go_enter Try.func5, Try.ntmps5
  go_wp2_with fail
  refine at_world_t (fun W0 hW0 => ?_)
  have HBx : Hid (W0.heap[w.heap.size]? = some (.cells #[.int .u64 x0, .int .u64 x1, .int .u64 x2, .int .u64 x3] 24 (0, 0))) := by
    rw [hW0]; show _ = _; simp only [World.alloc, Array.getElem?_push, Array.size_push]; simp
  have HBy : Hid (W0.heap[w.heap.size + 1]? = some (.cells #[.int .u64 y0, .int .u64 y1, .int .u64 y2, .int .u64 y3] 24 (0, 0))) := by
    rw [hW0]; show _ = _; simp only [World.alloc, Array.getElem?_push, Array.size_push]; simp
  have HBW : Hid (Below w.heap.size w W0) := by
    show Below _ _ _
    rw [hW0]
    repeat first | exact Below.refl _ _ | (refine Below.alloc ?_ (by simp <;> omega) _)
  clear hW0
  obtain ⟨cx0, cx1, cx2, cx3⟩ := cells4 HBx.out
  have hlx := (Array.getElem?_eq_some_iff.1 HBx.out).1
  obtain ⟨cy0, cy1, cy2, cy3⟩ := cells4 HBy.out
  have hly := (Array.getElem?_eq_some_iff.1 HBy.out).1
  refine wp_region_heldS (S := fun V => Below W0.heap.size W0 V) (by kernel_rfl) (Below.refl _ _).drew (fun hS => ?_)
  refine wpAnyH_takeL (i := 0) (v := ?_) rfl (by kernel_rfl) (by kernel_rfl) (by kernel_rfl) (fun _ _ _ h => h) (Or.inl ⟨by kernel_rfl, ?_⟩) hS ?_
  rotate_left
  · intro V hV
    have k0 := (hV.cell (p := ⟨w.heap.size, 0, none⟩) hlx).trans cx0
    have k1 := (hV.cell (p := ⟨w.heap.size, 1, none⟩) hlx).trans cx1
    have k2 := (hV.cell (p := ⟨w.heap.size, 2, none⟩) hlx).trans cx2
    have k3 := (hV.cell (p := ⟨w.heap.size, 3, none⟩) hlx).trans cx3
    go_simp
    (try with_reducible rfl)
  simp only [put_list, List.set_cons_succ, List.set_cons_zero]
  refine wpAnyH_takeL (i := 1) (v := ?_) rfl (by kernel_rfl) (by kernel_rfl) (by kernel_rfl) (fun _ _ _ h => h) (Or.inl ⟨by kernel_rfl, ?_⟩) hS ?_
  rotate_left
  · intro V hV
    have k0 := (hV.cell (p := ⟨w.heap.size + 1, 0, none⟩) hly).trans cy0
    have k1 := (hV.cell (p := ⟨w.heap.size + 1, 1, none⟩) hly).trans cy1
    have k2 := (hV.cell (p := ⟨w.heap.size + 1, 2, none⟩) hly).trans cy2
    have k3 := (hV.cell (p := ⟨w.heap.size + 1, 3, none⟩) hly).trans cy3
    go_simp
    (try with_reducible rfl)
  simp only [put_list, List.set_cons_succ, List.set_cons_zero]
  refine wpAnyH_takeL (i := 3) (v := ?_) rfl (by kernel_rfl) (by kernel_rfl) (by kernel_rfl) (fun _ _ _ h => h) (Or.inl ⟨by kernel_rfl, ?_⟩) hS ?_
  rotate_left
  · intro V hV
    have k0 := (hV.cell (p := ⟨w.heap.size, 0, none⟩) hlx).trans cx0
    have k1 := (hV.cell (p := ⟨w.heap.size, 1, none⟩) hlx).trans cx1
    have k2 := (hV.cell (p := ⟨w.heap.size, 2, none⟩) hlx).trans cx2
    have k3 := (hV.cell (p := ⟨w.heap.size, 3, none⟩) hlx).trans cx3
    go_simp
    (try with_reducible rfl)
  simp only [put_list, List.set_cons_succ, List.set_cons_zero]
  refine wpAnyH_takeL (i := 4) (v := ?_) rfl (by kernel_rfl) (by kernel_rfl) (by kernel_rfl) (fun _ _ _ h => h) (Or.inl ⟨by kernel_rfl, ?_⟩) hS ?_
  rotate_left
  · intro V hV
    have k0 := (hV.cell (p := ⟨w.heap.size + 1, 0, none⟩) hly).trans cy0
    have k1 := (hV.cell (p := ⟨w.heap.size + 1, 1, none⟩) hly).trans cy1
    have k2 := (hV.cell (p := ⟨w.heap.size + 1, 2, none⟩) hly).trans cy2
    have k3 := (hV.cell (p := ⟨w.heap.size + 1, 3, none⟩) hly).trans cy3
    go_simp
    (try with_reducible rfl)
  simp only [put_list, List.set_cons_succ, List.set_cons_zero]
  refine wpAnyH_ready (rs := [2]) (by kernel_rfl) (by simp) (AllReadyH.cons rfl (fun K hK => ?_) AllReadyH.nil)
  go_simp
  refine (Cpp.out _).mono ?_
  rintro e U1 ⟨rfl, hbc⟩
  refine hK.out _ _ (hS.trans (hbc.mono hS.size)) (fun hS => ?_)
  clear hK K hbc
  refine wpAnyH_ready (rs := [5]) (by kernel_rfl) (by simp) (AllReadyH.cons rfl (fun K hK => ?_) AllReadyH.nil)
  go_simp
  refine (Cdp.out _).mono ?_
  rintro e U2 ⟨rfl, hbc⟩
  refine hK.out _ _ (hS.trans (hbc.mono hS.size)) (fun hS => ?_)
  clear hK K hbc
  refine wpAnyH_ready (rs := [6]) (by kernel_rfl) (by simp) (AllReadyH.cons rfl (fun K hK => ?_) AllReadyH.nil)
  go_simp
  refine (Cmp.out _).mono ?_
  rintro e U3 ⟨rfl, hbc⟩
  refine hK.out _ _ (hS.trans (hbc.mono hS.size)) (fun hS => ?_)
  clear hK K hbc
  as_aux_lemma =>
    refine wpAnyH_takeL (i := 7) (v := ?_) rfl (by kernel_rfl) (by kernel_rfl) (by kernel_rfl) (fun _ _ _ h => h) (Or.inl ⟨by kernel_rfl, ?_⟩) hS ?_
    rotate_left
    · intro V hV
      go_simp
      (try with_reducible rfl)
    simp only [put_list, List.set_cons_succ, List.set_cons_zero]
    refine wpAnyH_takeL (i := 8) (v := ?_) rfl (by kernel_rfl) (by kernel_rfl) (by kernel_rfl) (fun _ _ _ h => h) (Or.inl ⟨by kernel_rfl, ?_⟩) hS ?_
    rotate_left
    · intro V hV
      have k0 := (hV.cell (p := ⟨w.heap.size + 1, 0, none⟩) hly).trans cy0
      have k1 := (hV.cell (p := ⟨w.heap.size + 1, 1, none⟩) hly).trans cy1
      have k2 := (hV.cell (p := ⟨w.heap.size + 1, 2, none⟩) hly).trans cy2
      have k3 := (hV.cell (p := ⟨w.heap.size + 1, 3, none⟩) hly).trans cy3
      go_simp
      (try with_reducible rfl)
    simp only [put_list, List.set_cons_succ, List.set_cons_zero]
    refine wpAnyH_takeL (i := 9) (v := ?_) rfl (by kernel_rfl) (by kernel_rfl) (by kernel_rfl) (fun _ _ _ h => h) (Or.inl ⟨by kernel_rfl, ?_⟩) hS ?_
    rotate_left
    · intro V hV
      have k0 := (hV.cell (p := ⟨w.heap.size, 0, none⟩) hlx).trans cx0
      have k1 := (hV.cell (p := ⟨w.heap.size, 1, none⟩) hlx).trans cx1
      have k2 := (hV.cell (p := ⟨w.heap.size, 2, none⟩) hlx).trans cx2
      have k3 := (hV.cell (p := ⟨w.heap.size, 3, none⟩) hlx).trans cx3
      go_simp
      (try with_reducible rfl)
    simp only [put_list, List.set_cons_succ, List.set_cons_zero]
    refine wpAnyH_takeL (i := 11) (v := ?_) rfl (by kernel_rfl) (by kernel_rfl) (by kernel_rfl) (fun _ _ _ h => h) (Or.inl ⟨by kernel_rfl, ?_⟩) hS ?_
    rotate_left
    · intro V hV
      have k0 := (hV.cell (p := ⟨w.heap.size + 1, 0, none⟩) hly).trans cy0
      have k1 := (hV.cell (p := ⟨w.heap.size + 1, 1, none⟩) hly).trans cy1
      have k2 := (hV.cell (p := ⟨w.heap.size + 1, 2, none⟩) hly).trans cy2
      have k3 := (hV.cell (p := ⟨w.heap.size + 1, 3, none⟩) hly).trans cy3
      go_simp
      (try with_reducible rfl)
    simp only [put_list, List.set_cons_succ, List.set_cons_zero]
    refine wpAnyH_takeL (i := 12) (v := ?_) rfl (by kernel_rfl) (by kernel_rfl) (by kernel_rfl) (fun _ _ _ h => h) (Or.inl ⟨by kernel_rfl, ?_⟩) hS ?_
    rotate_left
    · intro V hV
      have k0 := (hV.cell (p := ⟨w.heap.size, 0, none⟩) hlx).trans cx0
      have k1 := (hV.cell (p := ⟨w.heap.size, 1, none⟩) hlx).trans cx1
      have k2 := (hV.cell (p := ⟨w.heap.size, 2, none⟩) hlx).trans cx2
      have k3 := (hV.cell (p := ⟨w.heap.size, 3, none⟩) hlx).trans cx3
      go_simp
      (try with_reducible rfl)
    simp only [put_list, List.set_cons_succ, List.set_cons_zero]
    refine wpAnyH_ready (rs := [10]) (by kernel_rfl) (by simp) (AllReadyH.cons rfl (fun K hK => ?_) AllReadyH.nil)
    go_simp
    refine (Cps.out _).mono ?_
    rintro e U4 ⟨rfl, hbc⟩
    refine hK.out _ _ (hS.trans (hbc.mono hS.size)) (fun hS => ?_)
    clear hK K hbc
    refine wpAnyH_ready (rs := [13]) (by kernel_rfl) (by simp) (AllReadyH.cons rfl (fun K hK => ?_) AllReadyH.nil)
    go_simp
    refine (Cds.out _).mono ?_
    rintro e U5 ⟨rfl, hbc⟩
    refine hK.out _ _ (hS.trans (hbc.mono hS.size)) (fun hS => ?_)
    clear hK K hbc
    refine wpAnyH_ready (rs := [14]) (by kernel_rfl) (by simp) (AllReadyH.cons rfl (fun K hK => ?_) AllReadyH.nil)
    go_simp
    refine (Cms.out _).mono ?_
    rintro e U6 ⟨rfl, hbc⟩
    refine hK.out _ _ (hS.trans (hbc.mono hS.size)) (fun hS => ?_)
    clear hK K hbc
    as_aux_lemma =>
      refine wpAnyH_takeL (i := 15) (v := ?_) rfl (by kernel_rfl) (by kernel_rfl) (by kernel_rfl) (fun _ _ _ h => h) (Or.inl ⟨by kernel_rfl, ?_⟩) hS ?_
      rotate_left
      · intro V hV
        go_simp
        (try with_reducible rfl)
      simp only [put_list, List.set_cons_succ, List.set_cons_zero]
      refine wpAnyH_takeL (i := 16) (v := ?_) rfl (by kernel_rfl) (by kernel_rfl) (by kernel_rfl) (fun _ _ _ h => h) (Or.inl ⟨by kernel_rfl, ?_⟩) hS ?_
      rotate_left
      · intro V hV
        go_simp
        (try with_reducible rfl)
      simp only [put_list, List.set_cons_succ, List.set_cons_zero]
      refine wpAnyH_ready (rs := [17]) (by kernel_rfl) (by simp) (AllReadyH.cons rfl (fun K hK => ?_) AllReadyH.nil)
      go_simp
      refine (CAW.out _).mono ?_
      rintro e U7 ⟨rfl, hbc⟩
      refine hK.out _ _ (hS.trans (hbc.mono hS.size)) (fun hS => ?_)
      clear hK K hbc
      refine wpAnyH_takeL (i := 18) (v := ?_) rfl (by kernel_rfl) (by kernel_rfl) (by kernel_rfl) (fun _ _ _ h => h) (Or.inl ⟨by kernel_rfl, ?_⟩) hS ?_
      rotate_left
      · intro V hV
        go_simp
        (try with_reducible rfl)
      simp only [put_list, List.set_cons_succ, List.set_cons_zero]
      refine wpAnyH_ready (rs := [19]) (by kernel_rfl) (by simp) (AllReadyH.cons rfl (fun K hK => ?_) AllReadyH.nil)
      go_simp
      refine hK.out _ _ hS (fun hS => ?_)
      clear hK K
      refine wpAnyH_done (by kernel_rfl) ?_ _
      go_wp2_with fail
      go_ret
      exact ⟨rfl, HBW.out.trans (hS.mono HBW.out.size)⟩

end Go.Proofs.Ytpnijncoldihfaa
