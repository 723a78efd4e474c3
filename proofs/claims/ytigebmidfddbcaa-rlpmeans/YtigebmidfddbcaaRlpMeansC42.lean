/-
  The document's Same: items are alike exactly if they are built alike.
-/
import Derived.Test.YtigebmidfddbcaaRlpMeansC32
namespace Go.Proofs.Ytigebmidfddbcaa
open Go.RowKit Go.Shelf

theorem strB_eq {b1 b2 : List Nat} (h1 : ∀ j, lb b1 j < 256) (h2 : ∀ j, lb b2 j < 256) : strB (lb b1) b1.length = strB (lb b2) b2.length ↔ b1 = b2 := by
  constructor
  · intro h
    obtain ⟨hl, hj⟩ := strB_inj h1 h2 h
    rw [← pay_lb b1, ← pay_lb b2, ← hl]
    unfold pay
    exact List.map_congr_left fun j hj' => hj j (List.mem_range.1 hj')
  · rintro rfl
    rfl

theorem toList_ne {s1 s2 : ByteArray} (h : s1 ≠ s2) : (s1.toList == s2.toList) = false := by
  refine beq_eq_false_iff_ne.2 fun e => h ?_
  rw [ByteArray.toList_eq, ByteArray.toList_eq] at e
  exact ByteArray.ext (Array.ext' e)

set_option maxHeartbeats 8000000 in
set_option maxRecDepth 100000 in
theorem refSame_all : ∀ (N : Nat) (t1 t2 : Tree) (v1 v2 : Value) (w : World), t1.num ≤ N → IsItem w t1 v1 → IsItem w t2 v2 →
    Calls Try.prog 18 #[v1, v2] w fun e w' => (∃ r : Bool, e = .returned (.bool r) ∧ (r = true ↔ t1 = t2)) ∧ Below w.heap.size w w'
  | 0, t1, _, _, _, _, h, _, _ => absurd t1.num_pos (by omega)
  | N + 1, .node l1 b1 k1, .node l2 b2 k2, v1, v2, w, hN, hI1, hI2 => by
    obtain ⟨xa, xc, ka, kc, rfl, hB1, hK1, hKids1⟩ := hI1.form
    obtain ⟨ya, yc, ja, jc, rfl, hB2, hK2, hKids2⟩ := hI2.form
    unfold Tree.num at hN
    have hIH := fun t1 t2 v1 v2 w (h : t1 ∈ k1) => refSame_all N t1 t2 v1 v2 w (by have := Tree.nums_mem h; omega)
    have hb1 : Below w.heap.size w ((w.alloc (.cells #[.int .i64 l1, .slice xa b1.length xc, .slice ka k1.length kc] 26)).alloc (.cells #[.int .i64 l2, .slice ya b2.length yc, .slice ja k2.length jc] 26)) := ((Below.refl _ w).alloc (Nat.le_refl _) _).alloc (by simp) _
    have hs1 := conv_BS (hB1.moved hb1)
    have hs2 := conv_BS (hB2.moved hb1)
    have hseq := strB_eq hB1.lt hB2.lt
    have HALL := hideP (And.intro hK1 (And.intro hK2 (And.intro hKids1 (And.intro hKids2 (And.intro hIH hb1)))))
    clear hN hI1 hI2 hB1 hB2 hK1 hK2 hKids1 hKids2 hIH hb1
    generalize hS1 : strB (lb b1) b1.length = s1 at *
    generalize hS2 : strB (lb b2) b2.length = s2 at *
    clear hS1 hS2
    generalize hnb1 : b1.length = nb1 at *
    generalize hnb2 : b2.length = nb2 at *
    generalize hnk1 : k1.length = nk1 at *
    generalize hnk2 : k2.length = nk2 at *
    have HNK := hideP (And.intro hnk1 hnk2)
    clear hnb1 hnb2 hnk1 hnk2
    by_cases h1 : l1 = l2
    · by_cases h2 : s1 = s2
      · by_cases h3 : nk1 = nk2
        · have hb12 := hseq.1 h2
          subst h1
          subst h2
          subst h3
          subst hb12
          obtain ⟨hK1, hK2, hKids1, hKids2, hIH, hb1⟩ := HALL.out
          have hnk1 : nk1 ≤ 9223372036854775807 := by
            have e1 := hK1.le
            have e2 := hK1.room
            have e3 : maxLen = 9223372036854775807 := by decide
            omega
          have hx0 : ((w.alloc (.cells #[.int .i64 l1, .slice xa nb1 xc, .slice ka nk1 kc] 26)).alloc (.cells #[.int .i64 l1, .slice ya nb2 yc, .slice ja nk1 jc] 26)).heap[w.heap.size]? = some (.cells #[.int .i64 l1, .slice xa nb1 xc, .slice ka nk1 kc] 26 (0, 0)) := (heap_old _ _ (by simp)).trans (heap_new _ _)
          have hy0 : ((w.alloc (.cells #[.int .i64 l1, .slice xa nb1 xc, .slice ka nk1 kc] 26)).alloc (.cells #[.int .i64 l1, .slice ya nb2 yc, .slice ja nk1 jc] 26)).heap[w.heap.size + 1]? = some (.cells #[.int .i64 l1, .slice ya nb2 yc, .slice ja nk1 jc] 26 (0, 0)) := by
            have := heap_new (w.alloc (.cells #[.int .i64 l1, .slice xa nb1 xc, .slice ka nk1 kc] 26)) (.cells #[.int .i64 l1, .slice ya nb2 yc, .slice ja nk1 jc] 26)
            rwa [World.size_alloc] at this
          have HW := hideP (And.intro hx0 (And.intro hy0 hb1))
          clear hseq hK1 hK2 hKids1 hKids2 hIH hb1 hx0 hy0
          go_enter Try.func18, Try.ntmps18
          go_wp2_with fail
          generalize (w.alloc (.cells #[.int .i64 l1, .slice xa nb1 xc, .slice ka nk1 kc] 26)).alloc (.cells #[.int .i64 l1, .slice ya nb2 yc, .slice ja nk1 jc] 26) = W0 at *
          go_loopw [5] (fun i wr => ∃ q : Nat, i = .int .i64 (q : Int) ∧ q ≤ nk1 ∧ k1.take q = k2.take q ∧ Hid (Below W0.heap.size W0 wr)) (fun i _ => nk1 - (intOf i).toNat)
          case atStart => exact ⟨0, rfl, Nat.zero_le _, by simp, hideP (Below.refl _ _)⟩
          case round =>
            obtain ⟨q, rfl, hqn, htk, hbr⟩ := hrel
            obtain ⟨hx0, hy0, hb1⟩ := HW.out
            have hx1 := (hbr.out.block _ (lt_of_block hx0)).trans hx0
            have hy1 := (hbr.out.block _ (lt_of_block hy0)).trans hy0
            have hxr := lt_of_block hx1
            have hyr := lt_of_block hy1
            obtain ⟨cx0, cx1, cx2⟩ := cells3 hx1
            obtain ⟨cy0, cy1, cy2⟩ := cells3 hy1
            have hbw := hb1.trans (hbr.out.mono hb1.size)
            have HBW := hideP hbw
            by_cases hlt : q < nk1
            · obtain ⟨hK1, hK2, hKids1, hKids2, hIH, _⟩ := HALL.out
              have hl1 : q < k1.length := by rw [HNK.out.1]; exact hlt
              have hl2 : q < k2.length := by rw [HNK.out.2]; exact hlt
              obtain ⟨g, v0, v1, v2, rfl, d0, d1, d2, hit⟩ := hKids1.get (List.getElem?_eq_getElem hl1)
              obtain ⟨g', u0, u1, u2, rfl, d0', d1', d2', hit'⟩ := hKids2.get (List.getElem?_eq_getElem hl2)
              rw [Nat.zero_add] at d0 d1 d2 d0' d1' d2'
              have hcall := fun (W : World) (hb : Below w.heap.size w W) => hIH k1[q] k2[q] (.agg #[v0, v1, v2]) (.agg #[u0, u1, u2]) W (List.getElem_mem hl1) (hit.moved hb) (hit'.moved hb)
              have ht1 : k1.take (q + 1) = k1.take q ++ [k1[q]] := by rw [List.take_add_one, List.getElem?_eq_getElem hl1]; rfl
              have ht2 : k2.take (q + 1) = k2.take q ++ [k2[q]] := by rw [List.take_add_one, List.getElem?_eq_getElem hl2]; rfl
              have hnext : k1[q] = k2[q] → k1.take (q + 1) = k2.take (q + 1) := fun e => by rw [ht1, ht2, htk, e]
              have hbad : ¬ k1[q] = k2[q] → ¬ Tree.node l1 b1 k1 = Tree.node l1 b1 k2 := fun e h => by
                cases h
                exact e rfl
              generalize k1[q] = tq at *
              generalize k2[q] = uq at *
              cases tq with
              | node tl tb tk =>
              cases uq with
              | node ul ub uk =>
              obtain ⟨_, _, _, _, hv, _, _, _⟩ := hit.form
              obtain ⟨_, _, _, _, hv', _, _, _⟩ := hit'.form
              simp only [Value.agg.injEq, Array.mk.injEq, List.cons.injEq, and_true] at hv hv'
              obtain ⟨rfl, rfl, rfl⟩ := hv
              obtain ⟨rfl, rfl, rfl⟩ := hv'
              have hgw := World.block_lt_of_cell? _ _ d0
              have hgw' := World.block_lt_of_cell? _ _ d0'
              have d0 := (hbw.cell (p := ⟨g, q * 3, none⟩) hgw).trans d0
              have d1 := (hbw.cell (p := ⟨g, q * 3 + 1, none⟩) hgw).trans d1
              have d2 := (hbw.cell (p := ⟨g, q * 3 + 2, none⟩) hgw).trans d2
              have d0' := (hbw.cell (p := ⟨g', q * 3, none⟩) hgw').trans d0'
              have d1' := (hbw.cell (p := ⟨g', q * 3 + 1, none⟩) hgw').trans d1'
              have d2' := (hbw.cell (p := ⟨g', q * 3 + 2, none⟩) hgw').trans d2'
              have hgr : g < wr.heap.size := Nat.lt_of_lt_of_le hgw hbw.size
              have hgr' : g' < wr.heap.size := Nat.lt_of_lt_of_le hgw' hbw.size
              have g1 : (q : Int) < (nk1 : Int) := by omega
              have g1' : (0 : Int) ≤ (q : Int) := by omega
              have e9 : IntKind.i64.wrap ((q : Int) + 1) = ((q + 1 : Nat) : Int) := by rw [IntKind.wrap_i64]; omega
              have HC := hideP hcall
              have HN := hideP (And.intro hnext (And.intro hbad hlt))
              clear hcall hnext hbad ht1 ht2 htk hit hit' hK1 hK2 hKids1 hKids2 hIH hl1 hl2 hgw hgw' hlt hqn hbw hx0 hy0 hb1 hx1 hy1
              generalize tb.length = tn at *
              generalize tk.length = tn' at *
              generalize ub.length = un at *
              generalize uk.length = un' at *
              go_wp2_with fail
              rename_i Q2 K2 hK2
              have HK2 := hideP hK2
              clear hK2
              refine region_lateK [] (fun V0 => Below wr.heap.size wr V0) (by kernel_rfl) (Below.refl _ wr).drew (fun hS => ?_)
              refine anyZ_take (i := 0) (g := 5) (v := ?_) rfl (by kernel_rfl) (by kernel_rfl) (by kernel_rfl) (by kernel_rfl) (by kernel_rfl) (fun _ _ _ h => h) (Or.inl ⟨by kernel_rfl, ?_⟩) hS ?_
              rotate_left
              · intro V0 hV
                go_simp
                (try with_reducible rfl)
              simp only [put_list, List.set_cons_succ, List.set_cons_zero]
              refine anyZ_take (i := 1) (g := 5) (v := ?_) rfl (by kernel_rfl) (by kernel_rfl) (by kernel_rfl) (by kernel_rfl) (by kernel_rfl) (fun _ _ _ h => h) (Or.inl ⟨by kernel_rfl, ?_⟩) hS ?_
              rotate_left
              · intro V0 hV
                have kx := (hV.cell (p := ⟨w.heap.size, 2, none⟩) hxr).trans cx2
                go_simp
                (try with_reducible rfl)
              simp only [put_list, List.set_cons_succ, List.set_cons_zero]
              refine anyZ_take (i := 2) (g := 5) (v := ?_) rfl (by kernel_rfl) (by kernel_rfl) (by kernel_rfl) (by kernel_rfl) (by kernel_rfl) (fun _ _ _ h => h) (Or.inl ⟨by kernel_rfl, ?_⟩) hS ?_
              rotate_left
              · intro V0 hV
                go_simp
                (try with_reducible rfl)
              simp only [put_list, List.set_cons_succ, List.set_cons_zero]
              refine anyZ_take (i := 3) (g := 5) (v := ?_) rfl (by kernel_rfl) (by kernel_rfl) (by kernel_rfl) (by kernel_rfl) (by kernel_rfl) (fun _ _ _ h => h) (Or.inl ⟨by kernel_rfl, ?_⟩) hS ?_
              rotate_left
              · intro V0 hV
                go_simp
                (try with_reducible rfl)
              simp only [put_list, List.set_cons_succ, List.set_cons_zero]
              refine anyZ_take (i := 4) (g := 5) (v := ?_) rfl (by kernel_rfl) (by kernel_rfl) (by kernel_rfl) (by kernel_rfl) (by kernel_rfl) (fun _ _ _ h => h) (Or.inl ⟨by kernel_rfl, ?_⟩) hS ?_
              rotate_left
              · intro V0 hV
                have k0 := (hV.cell (p := ⟨g, q * 3, none⟩) hgr).trans d0
                have k1 := (hV.cell (p := ⟨g, q * 3 + 1, none⟩) hgr).trans d1
                have k2 := (hV.cell (p := ⟨g, q * 3 + 2, none⟩) hgr).trans d2
                go_simp
                (try with_reducible rfl)
              simp only [put_list, List.set_cons_succ, List.set_cons_zero]
              refine anyZ_take (i := 5) (g := 5) (v := ?_) rfl (by kernel_rfl) (by kernel_rfl) (by kernel_rfl) (by kernel_rfl) (by kernel_rfl) (fun _ _ _ h => h) (Or.inl ⟨by kernel_rfl, ?_⟩) hS ?_
              rotate_left
              · intro V0 hV
                go_simp
                (try with_reducible rfl)
              simp only [put_list, List.set_cons_succ, List.set_cons_zero]
              refine anyZ_take (i := 6) (g := 5) (v := ?_) rfl (by kernel_rfl) (by kernel_rfl) (by kernel_rfl) (by kernel_rfl) (by kernel_rfl) (fun _ _ _ h => h) (Or.inl ⟨by kernel_rfl, ?_⟩) hS ?_
              rotate_left
              · intro V0 hV
                have ky := (hV.cell (p := ⟨w.heap.size + 1, 2, none⟩) hyr).trans cy2
                go_simp
                (try with_reducible rfl)
              simp only [put_list, List.set_cons_succ, List.set_cons_zero]
              refine anyZ_take (i := 7) (g := 5) (v := ?_) rfl (by kernel_rfl) (by kernel_rfl) (by kernel_rfl) (by kernel_rfl) (by kernel_rfl) (fun _ _ _ h => h) (Or.inl ⟨by kernel_rfl, ?_⟩) hS ?_
              rotate_left
              · intro V0 hV
                go_simp
                (try with_reducible rfl)
              simp only [put_list, List.set_cons_succ, List.set_cons_zero]
              refine anyZ_take (i := 8) (g := 5) (v := ?_) rfl (by kernel_rfl) (by kernel_rfl) (by kernel_rfl) (by kernel_rfl) (by kernel_rfl) (fun _ _ _ h => h) (Or.inl ⟨by kernel_rfl, ?_⟩) hS ?_
              rotate_left
              · intro V0 hV
                go_simp
                (try with_reducible rfl)
              simp only [put_list, List.set_cons_succ, List.set_cons_zero]
              refine anyZ_take (i := 9) (g := 5) (v := ?_) rfl (by kernel_rfl) (by kernel_rfl) (by kernel_rfl) (by kernel_rfl) (by kernel_rfl) (fun _ _ _ h => h) (Or.inl ⟨by kernel_rfl, ?_⟩) hS ?_
              rotate_left
              · intro V0 hV
                have k0 := (hV.cell (p := ⟨g', q * 3, none⟩) hgr').trans d0'
                have k1 := (hV.cell (p := ⟨g', q * 3 + 1, none⟩) hgr').trans d1'
                have k2 := (hV.cell (p := ⟨g', q * 3 + 2, none⟩) hgr').trans d2'
                go_simp
                (try with_reducible rfl)
              simp only [put_list, List.set_cons_succ, List.set_cons_zero]
              refine anyZ_one (i := 10) (by kernel_rfl) rfl (fun Kc hKc => ?_)
              go_simp
              refine (HC.out _ (HBW.out.trans (hS.mono HBW.out.size))).mono ?_
              rintro e W4 ⟨⟨r, rfl, hr⟩, hb4⟩
              have hS := hS.trans (hb4.mono hS.size)
              refine hKc.out _ _ (fun _ => hS) ?_
              clear hKc Kc hb4
              refine anyZ_one (i := 11) (by kernel_rfl) rfl (fun Kc hKc => ?_)
              go_simp
              refine hKc.out _ _ (fun _ => hS) ?_
              clear hKc Kc
              refine anyZ_done (by kernel_rfl) ?_ _
              change K2 _ _
              refine HK2.out _ _ ?_
              have HS := hideP hS
              clear hS HK2 d0 d1 d2 d0' d1' d2' cx0 cx1 cx2 cy0 cy1 cy2 hxr hyr hgr hgr'
              cases r with
              | true =>
                have HE := hideP (HN.out.1 (hr.1 rfl))
                clear hr
                go_wp2_with fail
                exact ⟨⟨q + 1, rfl, HN.out.2.2, HE.out, hideP (hbr.out.trans (HS.out.mono hbr.out.size))⟩, by have := HN.out.2.2; simp [intOf]; omega⟩
              | false =>
                have HE := hideP (HN.out.2.1 (fun e => by have := hr.2 e; cases this))
                clear hr
                go_wp2_with fail
                go_ret
                exact ⟨⟨false, rfl, by simp [HE.out]⟩, HBW.out.trans (HS.out.mono HBW.out.size)⟩
            · have hqe : q = nk1 := by omega
              have HR : Hid (Tree.node l1 b1 k1 = Tree.node l1 b1 k2) := hideP (by
                rw [List.take_of_length_le (by rw [HNK.out.1]; omega), List.take_of_length_le (by rw [HNK.out.2]; omega)] at htk
                rw [htk])
              subst hqe
              clear htk hlt hqn hbw hx0 hy0 hb1 hx1 hy1
              go_wp2_with fail
              go_ret
              exact ⟨⟨true, rfl, by simp only [true_iff]; exact HR.out⟩, HBW.out⟩
        · have h3' : ¬ (nk1 : Int) = (nk2 : Int) := by omega
          have HR : Hid (¬ Tree.node l1 b1 k1 = Tree.node l2 b2 k2) := hideP (by
            rintro ⟨⟩
            have := HNK.out
            exact h3 (by rw [← this.1, this.2]))
          have HB := hideP HALL.out.2.2.2.2.2
          subst h1
          subst h2
          clear hseq h3
          go_enter Try.func18, Try.ntmps18
          go_wp2_with fail
          go_ret
          exact ⟨⟨false, rfl, by simp [HR.out]⟩, HB.out⟩
      · have h2' := toList_ne h2
        have HR : Hid (¬ Tree.node l1 b1 k1 = Tree.node l2 b2 k2) := hideP (by
          rintro ⟨⟩
          exact h2 (hseq.2 rfl))
        have HB := hideP HALL.out.2.2.2.2.2
        subst h1
        clear hseq
        go_enter Try.func18, Try.ntmps18
        go_wp2_with fail
        go_ret
        exact ⟨⟨false, rfl, by simp [HR.out]⟩, HB.out⟩
    · have HR : Hid (¬ Tree.node l1 b1 k1 = Tree.node l2 b2 k2) := hideP (by
        rintro ⟨⟩
        exact h1 rfl)
      have HB := hideP HALL.out.2.2.2.2.2
      have h1' : (l1 == l2) = false := beq_eq_false_iff_ne.2 h1
      clear hseq
      go_enter Try.func18, Try.ntmps18
      go_wp2_with fail
      go_ret
      exact ⟨⟨false, rfl, by simp [HR.out]⟩, HB.out⟩

end Go.Proofs.Ytigebmidfddbcaa
