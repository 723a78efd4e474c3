/-
  The document's order of signed words.
-/
import Derived.Test.YtpnijncoldihfaaBitsC35
import Derived.Test.YtpnijncoldihfaaBitsC19
import Derived.Test.YtpnijncoldihfaaBitsC25
namespace Go.Proofs.Ytpnijncoldihfaa
open Go.RowKit Go.Shelf

theorem scmp_val (X Y : Nat) : cmpI ((X + S255) % M256) ((Y + S255) % M256) = if negB X = negB Y then cmpI (X % M256) (Y % M256) else if negB X then -1 else 1 := by
  have h : ∀ Z : Nat, (Z + S255) % M256 = if negB Z then Z % M256 - S255 else Z % M256 + S255 := fun Z => by
    have hm := Nat.mod_lt Z M256_pos
    have e : M256 = S255 + S255 := by decide
    rw [Nat.add_mod, show S255 % M256 = S255 by decide]
    unfold negB
    generalize Z % M256 = z at *
    by_cases hz : S255 ≤ z
    · rw [decide_eq_true hz, if_pos rfl, e, Nat.mod_eq_sub_mod (by omega), Nat.mod_eq_of_lt (by omega)]; omega
    · rw [decide_eq_false hz, if_neg (by decide), Nat.mod_eq_of_lt (by omega)]
  rw [h X, h Y]
  have hx := Nat.mod_lt X M256_pos
  have hy := Nat.mod_lt Y M256_pos
  have e : M256 = S255 + S255 := by decide
  have nx : negB X = decide (S255 ≤ X % M256) := rfl
  have ny : negB Y = decide (S255 ≤ Y % M256) := rfl
  rw [nx, ny]
  generalize X % M256 = x at *
  generalize Y % M256 = y at *
  generalize S255 = s at *
  unfold cmpI
  by_cases a : s ≤ x <;> by_cases b : s ≤ y <;> simp [a, b]
  · by_cases c : x < y
    · rw [if_pos (by omega), if_pos c]
    · rw [if_neg (by omega), if_neg c]
      by_cases d : y < x
      · rw [if_pos (by omega), if_pos d]
      · rw [if_neg (by omega), if_neg d]
  · omega
  · rw [if_neg (by omega), if_pos (by omega)]

set_option maxHeartbeats 4000000 in
set_option maxRecDepth 100000 in
theorem refSCmp_any (X Y : Nat) (w : World) : Calls Try.prog 51 #[wv X, wv Y] w fun e w' => e = .returned (.int .i64 (cmpI ((X + S255) % M256) ((Y + S255) % M256))) ∧ Below w.heap.size w w' := by
  rw [scmp_val]
  have c4 := fun W => refBelow_any X W
  have c5 := fun W => refBelow_any Y W
  have c6 := fun W => refCmp_any X Y W
  generalize negB X = nx at *
  generalize negB Y = ny at *
  generalize cmpI (X % M256) (Y % M256) = cc at *
  obtain ⟨x0, x1, x2, x3, hx⟩ := wv_form X
  obtain ⟨y0, y1, y2, y3, hy⟩ := wv_form Y
  simp only [hx, hy] at c4 c5 c6 ⊢
  have C4 := hideP c4
  have C5 := hideP c5
  have C6 := hideP c6
  clear c4 c5 c6 hx hy
  go_enter Try.func51, Try.ntmps51
  go_wp2_with fail
  refine at_world_t (fun W0 hW0 => ?_)
  have HBx : Hid (W0.heap[w.heap.size]? = some (.cells #[.int .u64 x0, .int .u64 x1, .int .u64 x2, .int .u64 x3] 23 (0, 0))) := by
    rw [hW0]; show _ = _; simp only [World.alloc, Array.getElem?_push, Array.size_push]; simp
  have HBy : Hid (W0.heap[w.heap.size + 1]? = some (.cells #[.int .u64 y0, .int .u64 y1, .int .u64 y2, .int .u64 y3] 23 (0, 0))) := by
    rw [hW0]; show _ = _; simp only [World.alloc, Array.getElem?_push, Array.size_push]; simp
  have HBW : Hid (Below w.heap.size w W0) := by
    show Below _ _ _
    rw [hW0]
    repeat first | exact Below.refl _ _ | (refine Below.alloc ?_ (by simp <;> omega) _)
  clear hW0
  obtain ⟨cx0, cx1, cx2, cx3⟩ := cells4 HBx.out
  have hlx := (Array.getElem?_eq_some_iff.1 HBx.out).1
  obtain ⟨cy0, cy1, cy2, cy3⟩ := cells4 HBy.out
  have hly := (Array.getElem?_eq_some_iff.1 HBy.out).1
  refine wp_region_heldS (S := fun V => Below W0.heap.size W0 V) (by kernel_rfl) (Below.refl _ _).drew (fun hS => ?_)
  refine wpAnyH_takeL (i := 0) (v := ?_) rfl (by kernel_rfl) (by kernel_rfl) (by kernel_rfl) (fun _ _ _ h => h) (Or.inl ⟨by kernel_rfl, ?_⟩) hS ?_
  rotate_left
  · intro V hV
    have k0 := (hV.cell (p := ⟨w.heap.size, 0, none⟩) hlx).trans cx0
    have k1 := (hV.cell (p := ⟨w.heap.size, 1, none⟩) hlx).trans cx1
    have k2 := (hV.cell (p := ⟨w.heap.size, 2, none⟩) hlx).trans cx2
    have k3 := (hV.cell (p := ⟨w.heap.size, 3, none⟩) hlx).trans cx3
    go_simp
    (try with_reducible rfl)
  simp only [put_list, List.set_cons_succ, List.set_cons_zero]
  refine wpAnyH_takeL (i := 2) (v := ?_) rfl (by kernel_rfl) (by kernel_rfl) (by kernel_rfl) (fun _ _ _ h => h) (Or.inl ⟨by kernel_rfl, ?_⟩) hS ?_
  rotate_left
  · intro V hV
    have k0 := (hV.cell (p := ⟨w.heap.size + 1, 0, none⟩) hly).trans cy0
    have k1 := (hV.cell (p := ⟨w.heap.size + 1, 1, none⟩) hly).trans cy1
    have k2 := (hV.cell (p := ⟨w.heap.size + 1, 2, none⟩) hly).trans cy2
    have k3 := (hV.cell (p := ⟨w.heap.size + 1, 3, none⟩) hly).trans cy3
    go_simp
    (try with_reducible rfl)
  simp only [put_list, List.set_cons_succ, List.set_cons_zero]
  refine wpAnyH_ready (rs := [1]) (by kernel_rfl) (by simp) (AllReadyH.cons rfl (fun K hK => ?_) AllReadyH.nil)
  go_simp
  refine (C4.out _).mono ?_
  rintro e U1 ⟨rfl, hbc⟩
  refine hK.out _ _ (hS.trans (hbc.mono hS.size)) (fun hS => ?_)
  clear hK K hbc
  refine wpAnyH_ready (rs := [3]) (by kernel_rfl) (by simp) (AllReadyH.cons rfl (fun K hK => ?_) AllReadyH.nil)
  go_simp
  refine (C5.out _).mono ?_
  rintro e U2 ⟨rfl, hbc⟩
  refine hK.out _ _ (hS.trans (hbc.mono hS.size)) (fun hS => ?_)
  clear hK K hbc
  refine wpAnyH_takeL (i := 4) (v := ?_) rfl (by kernel_rfl) (by kernel_rfl) (by kernel_rfl) (fun _ _ _ h => h) (Or.inl ⟨by kernel_rfl, ?_⟩) hS ?_
  rotate_left
  · intro V hV
    go_simp
    (try with_reducible rfl)
  simp only [put_list, List.set_cons_succ, List.set_cons_zero]
  refine wpAnyH_done (by kernel_rfl) ?_ _
  clear cx0 cx1 cx2 cx3 hlx
  clear cy0 cy1 cy2 cy3 hly
  replace HBx : Hid (U2.heap[w.heap.size]? = some (.cells #[.int .u64 x0, .int .u64 x1, .int .u64 x2, .int .u64 x3] 23 (0, 0))) := (hS.block _ (Array.getElem?_eq_some_iff.1 HBx.out).1).trans HBx.out
  replace HBy : Hid (U2.heap[w.heap.size + 1]? = some (.cells #[.int .u64 y0, .int .u64 y1, .int .u64 y2, .int .u64 y3] 23 (0, 0))) := (hS.block _ (Array.getElem?_eq_some_iff.1 HBy.out).1).trans HBy.out
  replace HBW : Hid (Below w.heap.size w U2) := HBW.out.trans (hS.mono HBW.out.size)
  clear hS
  cases nx <;> cases ny
  · obtain ⟨cx0, cx1, cx2, cx3⟩ := cells4 HBx.out
    obtain ⟨cy0, cy1, cy2, cy3⟩ := cells4 HBy.out
    go_wp2_with fail
    refine (C6.out _).mono ?_
    rintro e V3 ⟨rfl, hb⟩
    replace HBW : Hid (Below w.heap.size w V3) := HBW.out.trans (hb.mono HBW.out.size)
    clear hb cx0 cx1 cx2 cx3 cy0 cy1 cy2 cy3
    go_wp2_with fail
    go_ret
    exact ⟨rfl, HBW.out⟩
  · obtain ⟨cx0, cx1, cx2, cx3⟩ := cells4 HBx.out
    go_wp2_with fail
    refine (C4.out _).mono ?_
    rintro e V3 ⟨rfl, hb⟩
    replace HBW : Hid (Below w.heap.size w V3) := HBW.out.trans (hb.mono HBW.out.size)
    clear hb cx0 cx1 cx2 cx3
    go_wp2_with fail
    go_ret
    exact ⟨rfl, HBW.out⟩
  · obtain ⟨cx0, cx1, cx2, cx3⟩ := cells4 HBx.out
    go_wp2_with fail
    refine (C4.out _).mono ?_
    rintro e V3 ⟨rfl, hb⟩
    replace HBW : Hid (Below w.heap.size w V3) := HBW.out.trans (hb.mono HBW.out.size)
    clear hb cx0 cx1 cx2 cx3
    go_wp2_with fail
    go_ret
    exact ⟨rfl, HBW.out⟩
  · obtain ⟨cx0, cx1, cx2, cx3⟩ := cells4 HBx.out
    obtain ⟨cy0, cy1, cy2, cy3⟩ := cells4 HBy.out
    go_wp2_with fail
    refine (C6.out _).mono ?_
    rintro e V3 ⟨rfl, hb⟩
    replace HBW : Hid (Below w.heap.size w V3) := HBW.out.trans (hb.mono HBW.out.size)
    clear hb cx0 cx1 cx2 cx3 cy0 cy1 cy2 cy3
    go_wp2_with fail
    go_ret
    exact ⟨rfl, HBW.out⟩

end Go.Proofs.Ytpnijncoldihfaa
