/- YtcceaokldphfgaaDiskDoesC33 -/
import Derived.Test.YtcceaokldphfgaaDiskDoesC32
namespace Go.Proofs.Ytcceaokldphfgaa
open Go.RowKit Go.Shelf

theorem chg_len {c : Chg} {xs : List UInt8} (h : ChgMay c) (hx : xs.length ≤ 268435456) : -1000000000 ≤ (((applyC c xs).length : Int) - xs.length) ∧ (((applyC c xs).length : Int) - xs.length) ≤ 1000000000 := by
  have := applyC_len h hx
  omega

set_option maxHeartbeats 2000000 in
set_option maxRecDepth 100000 in
theorem rchange_any {w : World} {role : DRole} {M i : Nat} {a : ASt} {rs : List DRep} {r : DRep} {fv kv lv uv d : Value} {c : Chg} {b : Bool} {at_ lg : Int} (h : DocOK w role M a rs fv kv lv uv) (hc : Coh a) (hf : FewD rs) (hul : a.full.length ≤ 140737488355328) (hs : SortedA a.fs) (hi : rs[i]? = some r) (hd : RoB w role d (chgL c)) (hm : ChgMay c) (h4 : chgC c d = [.bool b, .int .i64 at_, .int .i64 lg, d]) :
    Calls Try.prog 69 #[.pointer (some ⟨M, 0, none⟩), .int .i64 i, .agg #[.bool b, .int .i64 at_, .int .i64 lg, d], .int .i64 (applyC c r.a.data).length] w fun e w' => e = .returned (.int .i64 (chgA c a r.a).2) ∧ Hid (∃ role' rs' fv', DocOK w' role' M (chgA c a r.a).1 rs' fv' kv lv uv ∧ DStp role role' w w') := by
  have hmem := List.mem_of_getElem? hi
  have hF := h.files r hmem
  have hW := h.whole hc hmem
  have hil : i < rs.length := (List.getElem?_eq_some_iff.1 hi).1
  have hdl := hF.lenD hW
  obtain ⟨hl1, hl2⟩ := chg_len hm hdl
  have hbnd := chg_len hm hdl
  obtain ⟨g, cap, hfv, hcap, hgz, hg2, c0, c1, c2, hfr⟩ := h.file hi
  obtain ⟨qd, kd, hde, _⟩ := own_slice hd.1
  generalize hnd : (chgL c).length = nd at hde
  obtain ⟨O, hO⟩ : ∃ O : Obj, O = .cells #[.bool b, .int .i64 at_, .int .i64 lg, d] 114 := ⟨_, rfl⟩
  have hal : Below w.heap.size w (w.alloc O) := (Below.refl _ w).alloc (Nat.le_refl _) O
  obtain ⟨W0, hW0⟩ : ∃ W0, W0 = w.alloc O := ⟨_, rfl⟩
  rw [← hW0] at hal
  have hB0 : W0.heap[w.heap.size]? = some (.cells #[.bool b, .int .i64 at_, .int .i64 lg, d] 114 (0, 0)) := by rw [hW0, hO]; exact World.alloc_heap_new w _
  have h0 := h.still hal
  have hdat := (h0.files r hmem).dataD hW (hf.2 r hmem)
  have HDT : Hid (Calls Try.prog 48 #[.agg #[.string r.a.name, r.sv, r.cv]] W0 fun e w' => ∃ q n k, e = .returned (.slice q n k) ∧ n = r.a.data.length ∧ Hid (Below W0.heap.size W0 w')) := by
    refine hdat.mono ?_
    rintro e w' ⟨q, n, k, rfl, HO⟩
    exact ⟨q, n, k, rfl, HO.out.2, HO.out.1.2⟩
  have HRM : Hid (∀ W, Below W0.heap.size W0 W → Calls Try.prog 67 #[.pointer (some ⟨M, 0, none⟩), .int .i64 (((applyC c r.a.data).length : Int) - r.a.data.length)] W fun e w' => e = .returned (.bool (!fullA a (((applyC c r.a.data).length : Int) - r.a.data.length))) ∧ Hid (Below W.heap.size W w')) := fun W hb => rroom_any (h0.still hb) hc hf hul _ hbnd
  obtain ⟨x1, x2, x3, ex⟩ : ∃ q n c, r.sv = .slice q n c := by
    obtain ⟨q, c, e, _⟩ := own_slice hF.safe.1
    exact ⟨_, _, _, e⟩
  obtain ⟨y1, y2, ey, _⟩ := hF.crow
  have HH := hideP h
  have HI := hideP hi
  have H0 := hideP h0
  have HB0 := hideP hB0
  have HAL := hideP hal
  have HD := hideP hd
  have HM := hideP hm
  have H4 := hideP h4
  have HS0 := hideP hs
  have HFV := hideP hfv
  have HN := hideP (hf.2 r hmem)
  have hwr : IntKind.i64.wrap (((applyC c r.a.data).length : Int) - r.a.data.length) = ((applyC c r.a.data).length : Int) - r.a.data.length := by rw [IntKind.wrap_i64]; omega
  have hW00 : W0 = w.alloc (.cells #[.bool b, .int .i64 at_, .int .i64 lg, d] 114) := by rw [hW0, hO]
  obtain ⟨A, hA⟩ : ∃ A, A = chgA c a r.a := ⟨_, rfl⟩
  have HA := hideP hA
  rw [← hA]
  obtain ⟨B, hB⟩ : ∃ B, B = fullA a (((applyC c r.a.data).length : Int) - r.a.data.length) := ⟨_, rfl⟩
  have HBB := hideP hB
  rw [← hB] at HRM
  have HA1 : Hid (B = true → A = (a, 12)) := fun e => by rw [hA]; unfold chgA; rw [if_pos (by rw [← hB]; exact e)]
  have HA2 : Hid (B = false → A = ({ a with fs := setA a.fs r.a.name (changeA c) }, 0)) := fun e => by rw [hA]; unfold chgA; rw [if_neg (by rw [← hB, e]; decide)]
  have hln := hf.1
  have hMz : M < w.heap.size := h.dom M (by rw [h.roleM]; omega)
  have m5 : w.cell? ⟨M, 5, none⟩ = some fv := blk_cell h.str rfl
  rw [ex] at c1 HDT
  rw [ey] at c2 HDT
  rw [hfv] at m5
  rw [hde] at hW00
  generalize hnl : rs.length = nl at *
  have HW0 := hideP hW00
  have HEY := hideP ey
  generalize (applyC c r.a.data).length = la at *
  generalize r.a.data.length = ld at *
  generalize hnm : r.a.name = nm at *
  generalize hnc : r.a.chs.length = nc at *
  have HNM := hideP hnm
  clear h h0 hal hdat hd hm h4 hs hF hW hfv hi hmem hul hc hf hB0 hW0 hO hA hB hdl hl1 hl2 hW00 hnd hfr hbnd hnm hg2
  subst hde
  go_enter Try.func69, Try.ntmps69
  go_wp2_with fail
  rw [← HW0.out]
  refine HDT.out.mono ?_
  rintro e W1 ⟨q1, n1, k1, rfl, rfl, HB1⟩
  clear HDT c0 c1 c2 m5
  have HMZ := hideP hMz
  have HGZ := hideP hgz
  clear hMz hgz
  have hrm := HRM.out W1 HB1.out
  clear HRM
  go_wp2_with fail
  refine hrm.mono ?_
  rintro e W2 ⟨rfl, HB2⟩
  clear hrm
  have HB2 : Hid (Below W0.heap.size W0 W2) := HB1.out.trans (HB2.out.mono HB1.out.size)
  clear HB1
  by_cases hBt : B = true
  · subst hBt
    have hA1 := HA1.out rfl
    have HFIN : Hid (∃ role' rs' fv', DocOK W2 role' M A.1 rs' fv' kv lv uv ∧ DStp role role' w W2) := by
      rw [hA1]
      exact ⟨role, rs, fv, H0.out.still HB2.out, .still (HAL.out.trans (HB2.out.mono HAL.out.size))⟩
    have E2 : Hid (A.2 = 12) := (by rw [hA1] : A.2 = 12)
    clear hA1
    go_wp2
    go_ret
    refine ⟨?_, HFIN⟩
    rw [E2.out]
    rfl
  · have hBf : B = false := by simpa using hBt
    subst hBf
    have hA1 := HA2.out rfl
    have E2 : Hid (A.2 = 0) := (by rw [hA1] : A.2 = 0)
    have E1 : Hid (A.1 = { a with fs := setA a.fs nm (changeA c) }) := (by rw [hA1] : A.1 = { a with fs := setA a.fs nm (changeA c) })
    clear hA1
    have hD2 := H0.out.still HB2.out
    have hst := DocOK.chg_step (W := W2.drew) (hD2.still (Below.refl _ W2).drew) HI.out (HD.out.kept (fun k e hk => ⟨((HAL.out.trans (HB2.out.mono HAL.out.size)).block k hk), e⟩)) HM.out H4.out (by rw [hnc]; exact HN.out) HS0.out (g := g) (cap := cap) (by rw [hnl]; exact HFV.out)
    obtain ⟨q', c', w7, HRN, hk7, HST⟩ := hst
    have hMr : role M = 1 := H0.out.roleM
    have hz0 : w.heap.size < W0.heap.size := (Array.getElem?_eq_some_iff.1 HB0.out).1
    have hb2z := HB2.out.size
    have hbr : role w.heap.size = 0 := by
      by_cases hx : role w.heap.size = 0
      · exact hx
      · exact absurd (HH.out.dom _ hx) (Nat.lt_irrefl _)
    have hM7 : w7.heap[M]? = W2.heap[M]? := hk7 M (by omega) (Nat.lt_of_lt_of_le (Nat.lt_of_lt_of_le HMZ.out HAL.out.size) HB2.out.size)
    have hB7 : w7.heap[w.heap.size]? = W2.heap[w.heap.size]? := hk7 _ (by omega) (Nat.lt_of_lt_of_le hz0 hb2z)
    have hBox2 : W2.heap[w.heap.size]? = some (.cells #[.bool b, .int .i64 at_, .int .i64 lg, .slice qd nd kd] 114 (0, 0)) := (HB2.out.block _ hz0).trans HB0.out
    have hMs : W2.heap[M]? = some (.cells (docC a (.slice (some ⟨g, 0, none⟩) nl cap) kv lv uv) 41 (0, 0)) := by
      have := hD2.str
      rwa [HFV.out] at this
    have HS : Hid (∀ V : World, V.heap[M]? = W2.heap[M]? → V.heap[w.heap.size]? = W2.heap[w.heap.size]? → V.cell? ⟨M, 5, none⟩ = some (.slice (some ⟨g, 0, none⟩) nl cap) ∧ V.cell? ⟨w.heap.size, 0, none⟩ = some (.bool b) ∧ V.cell? ⟨w.heap.size, 1, none⟩ = some (.int .i64 at_) ∧ V.cell? ⟨w.heap.size, 2, none⟩ = some (.int .i64 lg) ∧ V.cell? ⟨w.heap.size, 3, none⟩ = some (.slice qd nd kd)) := fun V e1 e2 =>
      ⟨blk_cell (e1.trans hMs) rfl, blk_cell (e2.trans hBox2) rfl, blk_cell (e2.trans hBox2) rfl, blk_cell (e2.trans hBox2) rfl, blk_cell (e2.trans hBox2) rfl⟩
    have hgr : role g = 2 := H0.out.rowR g (by rw [HFV.out]; rfl)
    have hgw2 : g < W2.heap.size := Nat.lt_of_lt_of_le (Nat.lt_of_lt_of_le HGZ.out HAL.out.size) HB2.out.size
    have hMg : M ≠ g := fun e => by rw [e] at hMr; omega
    have hBg : w.heap.size ≠ g := fun e => by rw [e] at hbr; omega
    have Z2 := hideP (HS.out (W2.drew.alloc (.cells #[.bool b, .int .i64 at_, .int .i64 lg, .slice qd nd kd] 114)) (Below.heap_alloc W2.drew _ _ (Nat.lt_of_lt_of_le (Nat.lt_of_lt_of_le HMZ.out HAL.out.size) HB2.out.size)) (Below.heap_alloc W2.drew _ _ (Nat.lt_of_lt_of_le hz0 hb2z)))
    have Z3 := hideP (HS.out w7 hM7 hB7)
    have Z4 := hideP (HS.out (w7.setCell ⟨g, i * 3 + 2, none⟩ (.slice q' (nc + 1) c')) ((Below.heap_setCell _ _ _ _ hMg).trans hM7) ((Below.heap_setCell _ _ _ _ hBg).trans hB7))
    obtain ⟨g', cap2, e9, _, _, _, d0, d1, d2, hfz⟩ := hD2.file HI.out
    have e10 : g = g' := by
      rw [HFV.out] at e9
      simp only [Value.slice.injEq, Option.some.injEq, Addr.mk.injEq] at e9
      exact e9.1.1
    subst e10
    clear e9
    have hg7 : w7.heap[g]? = W2.heap[g]? := hk7 g (by omega) hgw2
    have u2 : w7.cell? ⟨g, i * 3 + 2, none⟩ = some (.slice y1 nc y2) := by
      have : w7.cell? ⟨g, i * 3 + 2, none⟩ = W2.cell? ⟨g, i * 3 + 2, none⟩ := by simp only [World.cell?, hg7]
      rw [this, d2, HEY.out]
    have uf : w7.frozen? ⟨g, i * 3 + 2, none⟩ = false := by
      have : w7.frozen? ⟨g, i * 3 + 2, none⟩ = W2.frozen? ⟨g, i * 3 + 2, none⟩ := by simp only [World.frozen?, hg7]
      rw [this]; exact hfz _
    rw [HEY.out] at d2 HRN
    rw [hnc] at HRN HST
    have HFIN : Hid (∃ role' rs' fv', DocOK (w7.setCell ⟨g, i * 3 + 2, none⟩ (.slice q' (nc + 1) c')) role' M A.1 rs' fv' kv lv uv ∧ DStp role role' w (w7.setCell ⟨g, i * 3 + 2, none⟩ (.slice q' (nc + 1) c'))) := by
      obtain ⟨role', rs', g1, g2⟩ := HST.out
      rw [E1.out, ← HNM.out]
      refine ⟨role', rs', fv, g1, (DStp.still (HAL.out.trans (HB2.out.mono HAL.out.size))).trans ?_⟩
      exact ⟨g2.os, g2.tape, g2.output, g2.size, g2.ext, g2.keep⟩
    clear hk7 HST hMr hbr hM7 hB7 hBox2 hMs hgr hMg hBg hg7 hfz d0 d1 hD2 hz0 hb2z
    go_wp2_with fail
    refine wp_region_heldS (S := fun V => V.cell? ⟨M, 5, none⟩ = some (.slice (some ⟨g, 0, none⟩) nl cap) ∧ V.cell? ⟨w.heap.size, 0, none⟩ = some (.bool b) ∧ V.cell? ⟨w.heap.size, 1, none⟩ = some (.int .i64 at_) ∧ V.cell? ⟨w.heap.size, 2, none⟩ = some (.int .i64 lg) ∧ V.cell? ⟨w.heap.size, 3, none⟩ = some (.slice qd nd kd)) (by kernel_rfl) (HS.out _ rfl rfl) (fun hS => ?_)
    refine wpAnyH_takeL (i := 0) (v := ?_) rfl (by kernel_rfl) (by kernel_rfl) (by kernel_rfl) (fun _ _ _ h => h) (Or.inl ⟨by kernel_rfl, ?_⟩) hS ?_
    rotate_left
    · intro V hV
      obtain ⟨y1, y2, y3, y4, y5⟩ := hV
      go_simp
      (try with_reducible rfl)
    simp only [put_list, List.set_cons_succ, List.set_cons_zero]
    refine wpAnyH_takeL (i := 1) (v := ?_) rfl (by kernel_rfl) (by kernel_rfl) (by kernel_rfl) (fun _ _ _ h => h) (Or.inl ⟨by kernel_rfl, ?_⟩) hS ?_
    rotate_left
    · intro V hV
      obtain ⟨y1, y2, y3, y4, y5⟩ := hV
      go_simp
      (try with_reducible rfl)
    simp only [put_list, List.set_cons_succ, List.set_cons_zero]
    refine wpAnyH_takeL (i := 2) (v := ?_) rfl (by kernel_rfl) (by kernel_rfl) (by kernel_rfl) (fun _ _ _ h => h) (Or.inl ⟨by kernel_rfl, ?_⟩) hS ?_
    rotate_left
    · intro V hV
      obtain ⟨y1, y2, y3, y4, y5⟩ := hV
      go_simp
      (try with_reducible rfl)
    simp only [put_list, List.set_cons_succ, List.set_cons_zero]
    refine wpAnyH_takeL (i := 3) (v := ?_) rfl (by kernel_rfl) (by kernel_rfl) (by kernel_rfl) (fun _ _ _ h => h) (Or.inl ⟨by kernel_rfl, ?_⟩) hS ?_
    rotate_left
    · intro V hV
      obtain ⟨y1, y2, y3, y4, y5⟩ := hV
      go_simp
      (try with_reducible rfl)
    simp only [put_list, List.set_cons_succ, List.set_cons_zero]
    refine wpAnyH_takeL (i := 4) (v := ?_) rfl (by kernel_rfl) (by kernel_rfl) (by kernel_rfl) (fun _ _ _ h => h) (Or.inl ⟨by kernel_rfl, ?_⟩) hS ?_
    rotate_left
    · intro V hV
      obtain ⟨y1, y2, y3, y4, y5⟩ := hV
      go_simp
      (try with_reducible rfl)
    simp only [put_list, List.set_cons_succ, List.set_cons_zero]
    refine wpAnyH_takeL (i := 5) (v := ?_) rfl (by kernel_rfl) (by kernel_rfl) (by kernel_rfl) (fun _ _ _ h => h) (Or.inl ⟨by kernel_rfl, ?_⟩) hS ?_
    rotate_left
    · intro V hV
      obtain ⟨y1, y2, y3, y4, y5⟩ := hV
      go_simp
      (try with_reducible rfl)
    simp only [put_list, List.set_cons_succ, List.set_cons_zero]
    refine wpAnyH_takeL (i := 6) (v := ?_) rfl (by kernel_rfl) (by kernel_rfl) (by kernel_rfl) (fun _ _ _ h => h) (Or.inl ⟨by kernel_rfl, ?_⟩) hS ?_
    rotate_left
    · intro V hV
      obtain ⟨y1, y2, y3, y4, y5⟩ := hV
      go_simp
      (try with_reducible rfl)
    simp only [put_list, List.set_cons_succ, List.set_cons_zero]
    refine wpAnyH_takeL (i := 7) (v := ?_) rfl (by kernel_rfl) (by kernel_rfl) (by kernel_rfl) (fun _ _ _ h => h) (Or.inl ⟨by kernel_rfl, ?_⟩) hS ?_
    rotate_left
    · intro V hV
      obtain ⟨y1, y2, y3, y4, y5⟩ := hV
      go_simp
      (try with_reducible rfl)
    simp only [put_list, List.set_cons_succ, List.set_cons_zero]
    refine wpAnyH_takeL (i := 8) (v := ?_) rfl (by kernel_rfl) (by kernel_rfl) (by kernel_rfl) (fun _ _ _ h => h) (Or.inl ⟨by kernel_rfl, ?_⟩) hS ?_
    rotate_left
    · intro V hV
      obtain ⟨y1, y2, y3, y4, y5⟩ := hV
      go_simp
      (try with_reducible rfl)
    simp only [put_list, List.set_cons_succ, List.set_cons_zero]
    refine wpAnyH_takeL (i := 9) (v := ?_) rfl (by kernel_rfl) (by kernel_rfl) (by kernel_rfl) (fun _ _ _ h => h) (Or.inl ⟨by kernel_rfl, ?_⟩) hS ?_
    rotate_left
    · intro V hV
      obtain ⟨y1, y2, y3, y4, y5⟩ := hV
      go_simp
      (try with_reducible rfl)
    simp only [put_list, List.set_cons_succ, List.set_cons_zero]
    refine wpAnyH_takeL (i := 10) (v := ?_) rfl (by kernel_rfl) (by kernel_rfl) (by kernel_rfl) (fun _ _ _ h => h) (Or.inl ⟨by kernel_rfl, ?_⟩) hS ?_
    rotate_left
    · intro V hV
      obtain ⟨y1, y2, y3, y4, y5⟩ := hV
      go_simp
      (try with_reducible rfl)
    simp only [put_list, List.set_cons_succ, List.set_cons_zero]
    refine wpAnyH_takeL (i := 11) (v := ?_) rfl (by kernel_rfl) (by kernel_rfl) (by kernel_rfl) (fun _ _ _ h => h) (Or.inl ⟨by kernel_rfl, ?_⟩) hS ?_
    rotate_left
    · intro V hV
      obtain ⟨y1, y2, y3, y4, y5⟩ := hV
      go_simp
      (try with_reducible rfl)
    simp only [put_list, List.set_cons_succ, List.set_cons_zero]
    refine wpAnyH_takeL (i := 13) (v := ?_) rfl (by kernel_rfl) (by kernel_rfl) (by kernel_rfl) (fun _ _ _ h => h) (Or.inl ⟨by kernel_rfl, ?_⟩) hS ?_
    rotate_left
    · intro V hV
      obtain ⟨y1, y2, y3, y4, y5⟩ := hV
      go_simp
      (try with_reducible rfl)
    simp only [put_list, List.set_cons_succ, List.set_cons_zero]
    refine wpAnyH_ready (rs := [12, 14]) (by kernel_rfl) (by simp) (AllReadyH.cons rfl (fun K hK => ?_) (AllReadyH.cons rfl (fun K hK => ?_) (AllReadyH.nil)))
    · go_simp
      refine hK.out _ _ (by (first | exact hS | exact HS.out _ rfl rfl | exact Z2.out | exact Z3.out | exact Z4.out)) (fun hS => ?_)
      clear hK K
      refine wpAnyH_ready (rs := [14]) (by kernel_rfl) (by simp) (AllReadyH.cons rfl (fun K hK => ?_) (AllReadyH.nil))
      go_simp
      refine hK.out _ _ (by (first | exact hS | exact HS.out _ rfl rfl | exact Z2.out | exact Z3.out | exact Z4.out)) (fun hS => ?_)
      clear hK K
      refine wpAnyH_ready (rs := [15]) (by kernel_rfl) (by simp) (AllReadyH.cons rfl (fun K hK => ?_) (AllReadyH.nil))
      rw [if_pos (by rfl)]
      refine Lib.wp_append_run _ _ _ 88 88 rfl _ _ rfl rfl _ _ HRN.out ?_
      go_simp
      refine hK.out _ _ (by (first | exact hS | exact HS.out _ rfl rfl | exact Z2.out | exact Z3.out | exact Z4.out)) (fun hS => ?_)
      clear hK K
      refine wpAnyH_takeL (i := 16) (v := ?_) rfl (by kernel_rfl) (by kernel_rfl) (by kernel_rfl) (fun _ _ _ h => h) (Or.inl ⟨by kernel_rfl, ?_⟩) hS ?_
      rotate_left
      · intro V hV
        obtain ⟨y1, y2, y3, y4, y5⟩ := hV
        go_simp
        (try with_reducible rfl)
      simp only [put_list, List.set_cons_succ, List.set_cons_zero]
      refine wpAnyH_takeL (i := 17) (v := ?_) rfl (by kernel_rfl) (by kernel_rfl) (by kernel_rfl) (fun _ _ _ h => h) (Or.inl ⟨by kernel_rfl, ?_⟩) hS ?_
      rotate_left
      · intro V hV
        obtain ⟨y1, y2, y3, y4, y5⟩ := hV
        go_simp
        (try with_reducible rfl)
      simp only [put_list, List.set_cons_succ, List.set_cons_zero]
      refine wpAnyH_ready (rs := [18]) (by kernel_rfl) (by simp) (AllReadyH.cons rfl (fun K hK => ?_) (AllReadyH.nil))
      go_simp
      refine hK.out _ _ (by (first | exact hS | exact HS.out _ rfl rfl | exact Z2.out | exact Z3.out | exact Z4.out)) (fun hS => ?_)
      clear hK K
      refine wpAnyH_done (by kernel_rfl) ?_ _
      clear hS
      go_wp2
      go_ret
      refine ⟨?_, HFIN⟩
      rw [E2.out]
      rfl
    · go_simp
      refine hK.out _ _ (by (first | exact hS | exact HS.out _ rfl rfl | exact Z2.out | exact Z3.out | exact Z4.out)) (fun hS => ?_)
      clear hK K
      refine wpAnyH_ready (rs := [12]) (by kernel_rfl) (by simp) (AllReadyH.cons rfl (fun K hK => ?_) (AllReadyH.nil))
      go_simp
      refine hK.out _ _ (by (first | exact hS | exact HS.out _ rfl rfl | exact Z2.out | exact Z3.out | exact Z4.out)) (fun hS => ?_)
      clear hK K
      refine wpAnyH_ready (rs := [15]) (by kernel_rfl) (by simp) (AllReadyH.cons rfl (fun K hK => ?_) (AllReadyH.nil))
      rw [if_pos (by rfl)]
      refine Lib.wp_append_run _ _ _ 88 88 rfl _ _ rfl rfl _ _ HRN.out ?_
      go_simp
      refine hK.out _ _ (by (first | exact hS | exact HS.out _ rfl rfl | exact Z2.out | exact Z3.out | exact Z4.out)) (fun hS => ?_)
      clear hK K
      refine wpAnyH_takeL (i := 16) (v := ?_) rfl (by kernel_rfl) (by kernel_rfl) (by kernel_rfl) (fun _ _ _ h => h) (Or.inl ⟨by kernel_rfl, ?_⟩) hS ?_
      rotate_left
      · intro V hV
        obtain ⟨y1, y2, y3, y4, y5⟩ := hV
        go_simp
        (try with_reducible rfl)
      simp only [put_list, List.set_cons_succ, List.set_cons_zero]
      refine wpAnyH_takeL (i := 17) (v := ?_) rfl (by kernel_rfl) (by kernel_rfl) (by kernel_rfl) (fun _ _ _ h => h) (Or.inl ⟨by kernel_rfl, ?_⟩) hS ?_
      rotate_left
      · intro V hV
        obtain ⟨y1, y2, y3, y4, y5⟩ := hV
        go_simp
        (try with_reducible rfl)
      simp only [put_list, List.set_cons_succ, List.set_cons_zero]
      refine wpAnyH_ready (rs := [18]) (by kernel_rfl) (by simp) (AllReadyH.cons rfl (fun K hK => ?_) (AllReadyH.nil))
      go_simp
      refine hK.out _ _ (by (first | exact hS | exact HS.out _ rfl rfl | exact Z2.out | exact Z3.out | exact Z4.out)) (fun hS => ?_)
      clear hK K
      refine wpAnyH_done (by kernel_rfl) ?_ _
      clear hS
      go_wp2
      go_ret
      refine ⟨?_, HFIN⟩
      rw [E2.out]
      rfl

end Go.Proofs.Ytcceaokldphfgaa
