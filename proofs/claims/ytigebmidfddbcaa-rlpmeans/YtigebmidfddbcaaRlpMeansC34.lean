/-
  law's twin: an item in new memory, all of which may be written to.
-/
import Derived.Test.YtigebmidfddbcaaRlpMeansC33
namespace Go.Proofs.Ytigebmidfddbcaa
open Go.RowKit Go.Shelf

/-- How the kids of a twin stand, so many done. -/
structure TJ (w V : World) (B : Nat) (l : Int) (s : Value) (ks : List Tree) (i : Nat) (wr : World) : Prop where
  row : ∃ kv, wr.heap[B]? = some (.cells #[.int .i64 l, s, kv] 26 (0, 0)) ∧ KR V.heap.size wr kv (ks.take i)
  keep : ∀ b, b < V.heap.size → b ≠ B → wr.heap[b]? = V.heap[b]?
  below : Below w.heap.size w wr
  size : V.heap.size ≤ wr.heap.size
  thaw : Thaw w.heap.size wr

set_option maxHeartbeats 8000000 in
set_option maxRecDepth 100000 in
theorem twin_allT : ∀ (N : Nat) (t : Tree) (v : Value) (w : World), t.num ≤ N → IsItem w t v → t.fits →
    Calls Try.prog 14 #[v] w fun e w' => (∃ v', e = .returned v' ∧ IsItem (cut w.heap.size w') t v') ∧ Below w.heap.size w w' ∧ Thaw w.heap.size w'
  | 0, t, _, _, h, _, _ => absurd t.num_pos (by omega)
  | N + 1, .node l b k, v, w, hN, hI, hfit => by
    obtain ⟨xa, xc, ka, kc, rfl, hB, hK, hKids⟩ := hI.form
    unfold Tree.fits at hfit
    unfold Tree.num at hN
    have hIH := fun t v w (h : t ∈ k) => twin_allT N t v w (by have := Tree.nums_mem h; omega)
    have HALL := hideP (And.intro hB (And.intro hK (And.intro hKids (And.intro hfit hIH))))
    clear hN hI hB hK hKids hfit hIH
    generalize hnb : b.length = nb at *
    generalize hnk : k.length = nk at *
    go_enter Try.func14, Try.ntmps14
    go_wp2_with fail
    generalize hW0 : (w.alloc (.cells #[.int .i64 l, .slice xa nb xc, .slice ka nk kc] 26)).alloc (.cells #[.int .i64 0, .slice none 0 0, .slice none 0 0] 26) = W0 at *
    have hx0 : W0.heap[w.heap.size]? = some (.cells #[.int .i64 l, .slice xa nb xc, .slice ka nk kc] 26 (0, 0)) := by
      rw [← hW0]; exact (heap_old _ _ (by simp)).trans (heap_new _ _)
    have hr0 : W0.heap[w.heap.size + 1]? = some (.cells #[.int .i64 0, .slice none 0 0, .slice none 0 0] 26 (0, 0)) := by
      rw [← hW0]
      have := heap_new (w.alloc (.cells #[.int .i64 l, .slice xa nb xc, .slice ka nk kc] 26)) (.cells #[.int .i64 0, .slice none 0 0, .slice none 0 0] 26)
      rwa [World.size_alloc] at this
    have hb0 : Below w.heap.size w W0 := by
      rw [← hW0]; exact ((Below.refl _ w).alloc (Nat.le_refl _) _).alloc (by simp) _
    have hw0 : w.heap.size < W0.heap.size := lt_of_block hx0
    have hsz0 : W0.heap.size = w.heap.size + 2 := by rw [← hW0]; simp
    have HTW0 : Hid (Thaw w.heap.size W0) := (by rw [← hW0]; exact ((Thaw.refl w).alloc _ _).alloc _ _ : Thaw w.heap.size W0)
    have HW0 := hideP (And.intro hr0 (And.intro hb0 hsz0))
    clear hr0 hb0 hsz0 hW0
    rename_i Q1 K1 hK1
    have HREST : Hid (∀ (B : Nat) (so : Option Addr) (sc : Nat) (V : World), V.heap[B]? = some (.cells #[.int .i64 l, .slice so nb sc, .slice none 0 0] 26 (0, 0)) → W0.heap.size ≤ B → Own W0.heap.size V (.slice so nb sc) nb (lb b) → (∀ g, so = some ⟨g, 0, none⟩ → g ≠ B) → Below W0.heap.size W0 V → Thaw w.heap.size V →
        K1 { tmps := #[.agg #[.int .i64 l, .slice xa nb xc, .slice ka nk kc], .pointer (some ⟨w.heap.size, 0, none⟩), .pointer (some ⟨w.heap.size + 1, 0, none⟩), .pointer (some ⟨B, 0, none⟩), undef, .pointer (some ⟨w.heap.size, 0, none⟩), .int .i64 l, .pointer (some ⟨w.heap.size, 1, none⟩), .slice xa nb xc, .slice so nb sc, .agg #[.int .i64 l, .slice so nb sc, .slice none 0 0], undef, undef, undef, undef, undef, undef, undef, undef, undef, undef, undef, undef, undef, undef, undef, undef, undef, undef, undef], defers := [] } V) := by
      intro B so sc V hbx hBl hO hat hbV hTV
      obtain ⟨hr0, hb0, hsz0⟩ := HW0.out
      have hVs := hbV.size
      have hxV := (hbV.block w.heap.size (by omega)).trans hx0
      have hrV := (hbV.block (w.heap.size + 1) (by omega)).trans hr0
      have hT0 : TJ w V B l (.slice so nb sc) k 0 V := ⟨⟨_, hbx, by rw [List.take_zero]; exact KR.nil _ _⟩, fun _ _ _ => rfl, hb0.trans (hbV.mono hb0.size), Nat.le_refl _, hTV⟩
      have hBV := lt_of_block hbx
      have HT0 := hideP hT0
      have HL := hideP (And.intro hO (And.intro hat (And.intro hBl (And.intro hxV (And.intro hrV (And.intro hsz0 (And.intro hVs hBV)))))))
      clear hTV hbx hBl hO hat hbV hr0 hb0 hsz0 hVs hxV hrV hT0 hBV hx0 hw0
      refine hK1 _ _ ?_
      go_wp2_with fail
      go_loopw [4] (fun i wr => ∃ q : Nat, i = .int .i64 (q : Int) ∧ q ≤ nk ∧ Hid (TJ w V B l (.slice so nb sc) k q wr)) (fun i _ => nk - (intOf i).toNat)
      case atStart => exact ⟨0, rfl, Nat.zero_le _, HT0⟩
      case round =>
        obtain ⟨q, rfl, hqn, hTI⟩ := hrel
        obtain ⟨hO, hat, hBl, hxV, hrV, hsz0, hVs, hBV⟩ := HL.out
        have hx1 := (hTI.out.keep w.heap.size (by omega) (by omega)).trans hxV
        obtain ⟨cx0, cx1, cx2⟩ := cells3 hx1
        by_cases hlt : q < nk
        · obtain ⟨kv, hbx, hKR⟩ := hTI.out.row
          have hql : q < k.length := by rw [hnk]; exact hlt
          obtain ⟨hB, hK, hKids, hfit, hIH⟩ := HALL.out
          obtain ⟨g, v0, v1, v2, rfl, d0, d1, d2, hit⟩ := hKids.get (List.getElem?_eq_getElem hql)
          rw [Nat.zero_add] at d0 d1 d2
          have hfi := Tree.fitsK_get hfit.2.2 (List.getElem?_eq_getElem hql)
          have hcall := hIH k[q] (.agg #[v0, v1, v2])
          have hcall := fun (W : World) (hb : Below w.heap.size w W) => hcall W (List.getElem_mem hql) (hit.moved hb) hfi
          have htake : k.take (q + 1) = k.take q ++ [k[q]] := by rw [List.take_add_one, List.getElem?_eq_getElem hql]; rfl
          have hlt3 : (k.take q).length = q := by rw [List.length_take]; omega
          generalize k[q] = tq at *
          cases tq with
          | node tl tb tk =>
          obtain ⟨ta0, tc0, ta0', tc0', hv, _, _, _⟩ := hit.form
          simp only [Value.agg.injEq, Array.mk.injEq, List.cons.injEq, and_true] at hv
          obtain ⟨rfl, rfl, rfl⟩ := hv
          have hgw := World.block_lt_of_cell? _ _ d0
          have d0 := (hTI.out.below.cell (p := ⟨g, q * 3, none⟩) hgw).trans d0
          have d1 := (hTI.out.below.cell (p := ⟨g, q * 3 + 1, none⟩) hgw).trans d1
          have d2 := (hTI.out.below.cell (p := ⟨g, q * 3 + 2, none⟩) hgw).trans d2
          have hwr := hTI.out.below.size
          have hgr0 : g < wr.heap.size := Nat.lt_of_lt_of_le hgw hwr
          have hVr := hTI.out.size
          have hBr : B < wr.heap.size := by omega
          have hxr : w.heap.size < wr.heap.size := by omega
          obtain ⟨kva, kvc, rfl⟩ := hKR.len
          rw [hlt3] at hKR hbx
          obtain ⟨cb0, cb1, cb2⟩ := cells3 hbx
          have hq63 : nk ≤ 9223372036854775807 := by
            have e1 := hK.le
            have e2 := hK.room
            have e3 : maxLen = 9223372036854775807 := by decide
            omega
          have g1 : (q : Int) < (nk : Int) := by omega
          have g1' : (0 : Int) ≤ (q : Int) := by omega
          have e9 : IntKind.i64.wrap ((q : Int) + 1) = ((q + 1 : Nat) : Int) := by rw [IntKind.wrap_i64]; omega
          have HC := hideP hcall
          have HM := hideP (And.intro hbx (And.intro hKR (And.intro hfit (And.intro htake (And.intro hlt3 (And.intro hlt (And.intro hVr (And.intro hBV (And.intro hsz0 (And.intro hVs hBl))))))))))
          clear hcall hbx hKR hfit htake hlt3 hB hK hKids hIH hit hfi hlt hqn hVr hBV hsz0 hVs hBl hO hat hxV hrV hql hwr hx1 hgw
          generalize htn : tb.length = tn at *
          generalize htn' : tk.length = tn' at *
          go_wp2_with fail
          refine region_lateQ [9, 10, 11] (fun V0 => Below wr.heap.size wr V0) (by kernel_rfl) (Below.refl _ wr).drew (fun hS => ?_)
          refine anyZ_take (i := 0) (g := 5) (v := ?_) rfl (by kernel_rfl) (by kernel_rfl) (by kernel_rfl) (by kernel_rfl) (by kernel_rfl) (fun _ _ _ h => h) (Or.inl ⟨by kernel_rfl, ?_⟩) hS ?_
          rotate_left
          · intro V0 hV
            go_simp
            (try with_reducible rfl)
          simp only [put_list, List.set_cons_succ, List.set_cons_zero]
          refine anyZ_take (i := 1) (g := 5) (v := ?_) rfl (by kernel_rfl) (by kernel_rfl) (by kernel_rfl) (by kernel_rfl) (by kernel_rfl) (fun _ _ _ h => h) (Or.inl ⟨by kernel_rfl, ?_⟩) hS ?_
          rotate_left
          · intro V0 hV
            have kb := (hV.cell (p := ⟨B, 2, none⟩) hBr).trans cb2
            go_simp
            (try with_reducible rfl)
          simp only [put_list, List.set_cons_succ, List.set_cons_zero]
          refine anyZ_take (i := 2) (g := 5) (v := ?_) rfl (by kernel_rfl) (by kernel_rfl) (by kernel_rfl) (by kernel_rfl) (by kernel_rfl) (fun _ _ _ h => h) (Or.inl ⟨by kernel_rfl, ?_⟩) hS ?_
          rotate_left
          · intro V0 hV
            go_simp
            (try with_reducible rfl)
          simp only [put_list, List.set_cons_succ, List.set_cons_zero]
          refine anyZ_take (i := 3) (g := 5) (v := ?_) rfl (by kernel_rfl) (by kernel_rfl) (by kernel_rfl) (by kernel_rfl) (by kernel_rfl) (fun _ _ _ h => h) (Or.inl ⟨by kernel_rfl, ?_⟩) hS ?_
          rotate_left
          · intro V0 hV
            have kx := (hV.cell (p := ⟨w.heap.size, 2, none⟩) hxr).trans cx2
            go_simp
            (try with_reducible rfl)
          simp only [put_list, List.set_cons_succ, List.set_cons_zero]
          refine anyZ_take (i := 4) (g := 5) (v := ?_) rfl (by kernel_rfl) (by kernel_rfl) (by kernel_rfl) (by kernel_rfl) (by kernel_rfl) (fun _ _ _ h => h) (Or.inl ⟨by kernel_rfl, ?_⟩) hS ?_
          rotate_left
          · intro V0 hV
            go_simp
            (try with_reducible rfl)
          simp only [put_list, List.set_cons_succ, List.set_cons_zero]
          refine anyZ_take (i := 5) (g := 5) (v := ?_) rfl (by kernel_rfl) (by kernel_rfl) (by kernel_rfl) (by kernel_rfl) (by kernel_rfl) (fun _ _ _ h => h) (Or.inl ⟨by kernel_rfl, ?_⟩) hS ?_
          rotate_left
          · intro V0 hV
            go_simp
            (try with_reducible rfl)
          simp only [put_list, List.set_cons_succ, List.set_cons_zero]
          refine anyZ_take (i := 6) (g := 5) (v := ?_) rfl (by kernel_rfl) (by kernel_rfl) (by kernel_rfl) (by kernel_rfl) (by kernel_rfl) (fun _ _ _ h => h) (Or.inl ⟨by kernel_rfl, ?_⟩) hS ?_
          rotate_left
          · intro V0 hV
            have k0 := (hV.cell (p := ⟨g, q * 3, none⟩) hgr0).trans d0
            have k1 := (hV.cell (p := ⟨g, q * 3 + 1, none⟩) hgr0).trans d1
            have k2 := (hV.cell (p := ⟨g, q * 3 + 2, none⟩) hgr0).trans d2
            go_simp
            (try with_reducible rfl)
          simp only [put_list, List.set_cons_succ, List.set_cons_zero]
          refine anyZ_one (i := 7) (by kernel_rfl) rfl (fun Kc hKc => ?_)
          go_simp
          refine (HC.out _ (hTI.out.below.trans (hS.mono hTI.out.below.size))).mono ?_
          rintro e W4 ⟨⟨v, rfl, hIt⟩, hb4, hT4⟩
          have HT4 : Hid (Thaw w.heap.size W4) := (hTI.out.thaw.same (w' := wr.drew) rfl).call hb4 hT4
          clear hT4
          have HIT := hideP hIt
          obtain ⟨ua, uc, ua', uc', rfl, _, _, _⟩ := hIt.form
          rw [htn, htn'] at HIT ⊢
          have HTN := hideP (And.intro htn htn')
          clear hIt htn htn'
          obtain ⟨hbx, hKR, hfit, htake, hlt3, hlt, hVr, hBV, hsz0, hVs, hBl⟩ := HM.out
          have hS := hS.trans (hb4.mono hS.size)
          refine hKc.out _ _ (fun _ => hS) ?_
          clear hKc Kc
          have hs4 := hb4.size
          have HKR := hideP (And.intro hbx (And.intro hKR (And.intro hfit (And.intro htake (And.intro hlt3 (And.intro hlt (And.intro hVr (And.intro hBV (And.intro hsz0 (And.intro hVs hBl))))))))))
          clear hbx hKR hfit htake hlt3 hlt hVr hBV hsz0 hVs hBl HM HC hs4 hb4
          refine anyZ_one (i := 8) (by kernel_rfl) rfl (fun Kc hKc => ?_)
          go_simp
          obtain ⟨hbx, hKR, hfit, htake, hlt3, hlt, hVr, hBV, hsz0, hVs, hBl⟩ := HKR.out
          have hb5 : Below W4.heap.size W4 (W4.alloc (.cells #[.int .i64 tl, .slice ua tn uc, .slice ua' tn' uc'] 26)) := (Below.refl _ W4).alloc (Nat.le_refl _) _
          have hlit := heap_new W4 (.cells #[.int .i64 tl, .slice ua tn uc, .slice ua' tn' uc'] 26)
          have hsz5 : (W4.alloc (.cells #[.int .i64 tl, .slice ua tn uc, .slice ua' tn' uc'] 26)).heap.size = W4.heap.size + 1 := by simp
          have hT5 := HT4.out.alloc #[.int .i64 tl, .slice ua tn uc, .slice ua' tn' uc'] 26
          have hS4 := hS
          have hS := hS.trans (hb5.mono hS.size)
          refine hKc.out _ _ (fun _ => hS) ?_
          clear hKc Kc
          have hit5 : IsItem (cutR V.heap.size (Value.slice kva q kvc).ownBlock (W4.alloc (.cells #[.int .i64 tl, .slice ua tn uc, .slice ua' tn' uc'] 26))) (.node tl tb tk) (.agg #[.int .i64 tl, .slice ua tn uc, .slice ua' tn' uc']) := HIT.out.mono fun a u hc => by
            obtain ⟨h1, h2⟩ := cut_cell.1 hc
            rw [World.size_drew] at h1
            exact cutR_cell.2 ⟨by omega, fun e => by have := (hKR.lt e).2; omega, (hb5.cell (p := a) (World.block_lt_of_cell? _ _ h2)).trans h2⟩
          have hKR5 : KR V.heap.size (W4.alloc (.cells #[.int .i64 tl, .slice ua tn uc, .slice ua' tn' uc'] 26)) (.slice kva q kvc) (k.take q) := hKR.same fun b o _ ho _ => (hS.block b (lt_of_block ho)).trans ho
          generalize hW5 : W4.alloc (.cells #[.int .i64 tl, .slice ua tn uc, .slice ua' tn' uc'] 26) = W5 at *
          generalize hB5 : W4.heap.size = B5 at *
          obtain ⟨n0, n1, n2⟩ := cells3 hlit
          have hs5 := hS.size
          have hqb : (k.take q).length ≤ 3518437208884 := by have := hfit.2.1; omega
          obtain ⟨g', cap, W7, hrun, hKR7, hgr, hat7, hg7, hb7⟩ := hKR5.append (by omega) (by omega) hit5 ⟨B5, 0, none⟩ 1 24 n0 n1 n2
          have hT7 := kid_thaw hKR5 (by omega) hit5.one ⟨B5, 0, none⟩ 1 24 n0 n1 n2 hrun hT5
          rw [hlt3] at hrun hKR7
          have hbx7 : W7.heap[B]? = some (.cells #[.int .i64 l, .slice so nb sc, .slice kva q kvc] 26 (0, 0)) := (hb7.block B hBV).trans ((hS.block B hBr).trans hbx)
          have hTI8 : TJ w V B l (.slice so nb sc) k (q + 1) (W7.setCell ⟨B, 2, none⟩ (.slice (some ⟨g', 0, none⟩) (q + 1) cap)) := by
            have hBg : B ≠ g' := by
              rcases hat7 with h | h
              · have := (hKR.lt h).1; omega
              · omega
            have hs7 := hb7.size
            refine ⟨⟨_, blk_set hbx7 _, ?_⟩, fun b h1 h2 => (Below.heap_setCell _ _ _ _ h2).trans ((hb7.block b h1).trans ((hS.block b (by omega)).trans (hTI.out.keep b h1 h2))), ?_, (by simp; omega), hT7.set _ _⟩
            · rw [htake]
              exact hKR7.same (fun b o h1 h2 _ => (Below.heap_setCell _ _ _ _ (by dsimp only; omega)).trans h2)
            · exact (((hTI.out.below.trans (hS.mono hTI.out.below.size)).trans (hb7.mono (by omega))).setCell (by dsimp only; omega) _)
          refine anyZ_one (i := 9) (by kernel_rfl) rfl (fun Kc hKc => ?_)
          refine step_append (ty := 24) (vs := .slice kva q kvc) (vx := .slice (some ⟨B5, 0, none⟩) 1 1) (v' := .slice (some ⟨g', 0, none⟩) (q + 1) cap) (w' := W7) (dd := 27) rfl (.tmp 19) (.tmp 26) 24 rfl rfl rfl rfl rfl hrun ?_
          refine hKc.out _ _ (fun h => absurd (by decide) h) ?_
          clear hKc Kc
          simp only [put_list, List.set_cons_succ, List.set_cons_zero]
          have q2 := blk_cell hbx7 (o := 2) rfl
          have qf : ∀ o, W7.frozen? ⟨B, o, none⟩ = false := fun o => blk_free hbx7
          have HTI8 := hideP hTI8
          have HQN := hideP hlt
          clear hT7 hT5 hTI8 hbx7 hrun hKR7 hgr hat7 hg7 hb7 n0 n1 n2 hqb hs5 hlit hit5 hKR5 hb5 hS4 hbx hKR hfit htake hlt3 hlt hVr hBV hsz0 hVs hBl hS hsz5 hW5 hB5 HKR cb0 cb1 cb2 cx0 cx1 cx2 d0 d1 d2
          refine anyZ_one (i := 10) (by kernel_rfl) rfl (fun Kc hKc => ?_)
          go_simp
          refine hKc.out _ _ (fun h => absurd (by decide) h) ?_
          clear hKc Kc
          refine anyZ_one (i := 11) (by kernel_rfl) rfl (fun Kc hKc => ?_)
          go_simp
          refine hKc.out _ _ (fun h => absurd (by decide) h) ?_
          clear hKc Kc
          refine anyZ_done (by kernel_rfl) ?_ _
          show Exit.then _ _ _ _ _
          simp only [Exit.then]
          go_wp2_with fail
          exact ⟨⟨q + 1, rfl, HQN.out, HTI8⟩, by have := HQN.out; simp [intOf]; omega⟩
        · have hqe : q = nk := by omega
          subst hqe
          obtain ⟨kv, hbx, hKR⟩ := hTI.out.row
          rw [← hnk, List.take_length] at hKR
          obtain ⟨kva, kvc, rfl⟩ := hKR.len
          have hres1 := (hTI.out.keep (w.heap.size + 1) (by omega) (by omega)).trans hrV
          have hfin : IsItem (cut w.heap.size (((wr.setCell ⟨w.heap.size + 1, 0, none⟩ (.int .i64 l)).setCell ⟨w.heap.size + 1, 1, none⟩ (.slice so nb sc)).setCell ⟨w.heap.size + 1, 2, none⟩ (.slice kva k.length kvc))) (.node l b k) (.agg #[.int .i64 l, .slice so nb sc, .slice kva k.length kvc]) := by
            obtain ⟨ka', kc', ee, hk1, hk2⟩ := hKR.kids
            cases ee
            rw [← hnb] at hO ⊢
            refine item_of_parts (hO.into_at fun a u h1 hso h2 => ?_) ⟨hk1.le, hk1.room, hk1.at_⟩ (hk2.mono fun a u hc => ?_)
            · have hal := World.block_lt_of_cell? _ _ h2
              have hne : a.block ≠ w.heap.size + 1 := by omega
              have hB : a.block ≠ B := hat _ hso
              exact cut_cell.2 ⟨by omega, (cell_congr (Below.heap_setCell _ _ _ _ hne)).trans ((cell_congr (Below.heap_setCell _ _ _ _ hne)).trans ((cell_congr (Below.heap_setCell _ _ _ _ hne)).trans ((cell_congr (hTI.out.keep _ hal hB)).trans h2)))⟩
            · obtain ⟨h1, h2⟩ := cut_cell.1 hc
              have hne : a.block ≠ w.heap.size + 1 := by omega
              exact cut_cell.2 ⟨by omega, (cell_congr (Below.heap_setCell _ _ _ _ hne)).trans ((cell_congr (Below.heap_setCell _ _ _ _ hne)).trans ((cell_congr (Below.heap_setCell _ _ _ _ hne)).trans h2))⟩
          have HTE : Hid (Thaw w.heap.size (((wr.setCell ⟨w.heap.size + 1, 0, none⟩ (.int .i64 l)).setCell ⟨w.heap.size + 1, 1, none⟩ (.slice so nb sc)).setCell ⟨w.heap.size + 1, 2, none⟩ (.slice kva k.length kvc))) := ((hTI.out.thaw.set _ _).set _ _).set _ _
          have HEND := hideP (And.intro hfin (((hTI.out.below.setCell (p := ⟨w.heap.size + 1, 0, none⟩) (Nat.le_succ _) (.int .i64 l)).setCell (p := ⟨w.heap.size + 1, 1, none⟩) (Nat.le_succ _) (.slice so nb sc)).setCell (p := ⟨w.heap.size + 1, 2, none⟩) (Nat.le_succ _) (.slice kva k.length kvc)))
          obtain ⟨x0, x1, x2⟩ := cells3 hbx
          obtain ⟨y0, y1, y2⟩ := cells3 hres1
          have yf : ∀ o, wr.frozen? ⟨w.heap.size + 1, o, none⟩ = false := fun o => blk_free hres1
          clear hfin hbx hKR hO hat hBl hxV hrV hsz0 hVs hBV hres1 hqn hx1 hTI hnk
          generalize k.length = nk' at *
          go_wp2_with fail
          refine bodyPost_ret (v := .agg #[.int .i64 l, .slice so nb sc, .slice kva nk' kvc]) (by simp [results, Try.results14, go_sem, y0, y1, y2, World.cell?_setCell_same]) rfl ⟨⟨_, rfl, HEND.out.1⟩, HEND.out.2, HTE.out⟩
    clear hK1
    refine region_lateK [] (fun V => Below W0.heap.size W0 V) (by kernel_rfl) (Below.refl _ W0).drew (fun hS => ?_)
    refine anyZ_take (i := 0) (g := 5) (v := ?_) rfl (by kernel_rfl) (by kernel_rfl) (by kernel_rfl) (by kernel_rfl) (by kernel_rfl) (fun _ _ _ h => h) (Or.inl ⟨by kernel_rfl, ?_⟩) hS ?_
    rotate_left
    · intro V hV
      go_simp
      (try with_reducible rfl)
    simp only [put_list, List.set_cons_succ, List.set_cons_zero]
    refine anyZ_take (i := 1) (g := 5) (v := ?_) rfl (by kernel_rfl) (by kernel_rfl) (by kernel_rfl) (by kernel_rfl) (by kernel_rfl) (fun _ _ _ h => h) (Or.inl ⟨by kernel_rfl, ?_⟩) hS ?_
    rotate_left
    · intro V hV
      obtain ⟨k0, k1, k2⟩ := cells3 ((hV.block w.heap.size hw0).trans hx0)
      go_simp
      (try with_reducible rfl)
    simp only [put_list, List.set_cons_succ, List.set_cons_zero]
    refine anyZ_take (i := 2) (g := 5) (v := ?_) rfl (by kernel_rfl) (by kernel_rfl) (by kernel_rfl) (by kernel_rfl) (by kernel_rfl) (fun _ _ _ h => h) (Or.inl ⟨by kernel_rfl, ?_⟩) hS ?_
    rotate_left
    · intro V hV
      go_simp
      (try with_reducible rfl)
    simp only [put_list, List.set_cons_succ, List.set_cons_zero]
    refine anyZ_take (i := 3) (g := 5) (v := ?_) rfl (by kernel_rfl) (by kernel_rfl) (by kernel_rfl) (by kernel_rfl) (by kernel_rfl) (fun _ _ _ h => h) (Or.inl ⟨by kernel_rfl, ?_⟩) hS ?_
    rotate_left
    · intro V hV
      obtain ⟨k0, k1, k2⟩ := cells3 ((hV.block w.heap.size hw0).trans hx0)
      go_simp
      (try with_reducible rfl)
    simp only [put_list, List.set_cons_succ, List.set_cons_zero]
    obtain ⟨hB, hK, hKids, hfit, hIH⟩ := HALL.out
    have HC := hideP (fun (W : World) (hb : Below W0.heap.size W0 W) => lawBytes_T hfit.1 W (hB.moved (HW0.out.2.1.trans (hb.mono HW0.out.2.1.size))))
    clear hB hK hKids hfit hIH
    refine anyZ_two (i := 4) (j := 6) (by kernel_rfl) rfl rfl (fun Kc hKc => ?_) (fun Kc hKc => ?_)
    · go_simp
      refine (HC.out _ hS).mono ?_
      rintro e W2 ⟨⟨sv, rfl, hO⟩, hb2, hT2⟩
      have HT2 : Hid (Thaw w.heap.size W2) := (HTW0.out.same (w' := W0.drew) rfl).call hb2 hT2
      clear hT2
      obtain ⟨so, sc, rfl, _, _⟩ := hO.ex
      have hS0 := hS
      have hS := hS.trans (hb2.mono hS.size)
      refine hKc.out _ _ (fun _ => hS) ?_
      clear hKc Kc
      refine anyZ_take (i := 5) (g := 5) (v := ?_) rfl (by kernel_rfl) (by kernel_rfl) (by kernel_rfl) (by kernel_rfl) (by kernel_rfl) (fun _ _ _ h => h) (Or.inl ⟨by kernel_rfl, ?_⟩) hS ?_
      rotate_left
      · intro V hV
        go_simp
        (try with_reducible rfl)
      simp only [put_list, List.set_cons_succ, List.set_cons_zero]
      refine anyZ_one (i := 6) (by kernel_rfl) rfl (fun Kc hKc => ?_)
      go_simp
      have hS := hS.alloc hS.size (.cells #[.int .i64 0, .slice none 0 0, .slice none 0 0] 26)
      refine hKc.out _ _ (fun _ => hS) ?_
      clear hKc Kc
      refine anyZ_one (i := 7) (by kernel_rfl) rfl (fun Kc hKc => ?_)
      go_simp
      have hS4 : Below W0.heap.size W0 (W2.alloc (.cells #[.int .i64 l, .slice so nb sc, .slice none 0 0] 26)) := (hS0.trans (hb2.mono hS0.size)).alloc (Nat.le_trans hS0.size hb2.size) _
      refine hKc.out _ _ (fun _ => hS4) ?_
      clear hKc Kc
      refine anyZ_done (by kernel_rfl) ?_ _
      have hs2 := hb2.size
      refine HREST.out W2.heap.size so sc _ (heap_new W2 _) (by simpa using hs2) ?_ (fun g e => by subst e; have := hO.lt; omega) hS4 (HT2.out.alloc _ _)
      exact hO.same (fun b _ hb => heap_old W2 _ hb) (by simp) (by simp)
    · go_simp
      have hS : Below W0.heap.size W0 ((W0.alloc (.cells #[.int .i64 0, .slice none 0 0, .slice none 0 0] 26)).drew) := ((Below.refl _ W0).alloc (Nat.le_refl _) _).drew
      refine hKc.out _ _ (fun _ => hS) ?_
      clear hKc Kc
      have hbox : ((W0.alloc (.cells #[.int .i64 0, .slice none 0 0, .slice none 0 0] 26)).drew).heap[W0.heap.size]? = some (.cells #[.int .i64 0, .slice none 0 0, .slice none 0 0] 26 (0, 0)) := heap_new W0 _
      have HSZ : Hid (((W0.alloc (.cells #[.int .i64 0, .slice none 0 0, .slice none 0 0] 26)).drew).heap.size = W0.heap.size + 1) := hideP (by simp)
      have hT1 : Thaw w.heap.size ((W0.alloc (.cells #[.int .i64 0, .slice none 0 0, .slice none 0 0] 26)).drew) := (HTW0.out.alloc _ _).same rfl
      generalize ((W0.alloc (.cells #[.int .i64 0, .slice none 0 0, .slice none 0 0] 26)).drew) = W1 at *
      refine anyZ_one (i := 4) (by kernel_rfl) rfl (fun Kc hKc => ?_)
      go_simp
      refine (HC.out _ hS).mono ?_
      rintro e W3 ⟨⟨sv, rfl, hO⟩, hb3, hT3⟩
      have HT3 := hideP (hT1.call hb3 hT3)
      clear hT3
      obtain ⟨so, sc, rfl, _, hog⟩ := hO.ex
      have hs1 := HSZ.out
      have HAT : Hid (∀ g, so = some ⟨g, 0, none⟩ → g ≠ W0.heap.size) := hideP (fun g e => by
        rcases hog with h | ⟨g', e', h1, _⟩
        · rw [h] at e; cases e
        · rw [e'] at e; cases e; omega)
      have hS := hS.trans (hb3.mono hS.size)
      have HBOX := hideP ((hb3.block _ (lt_of_block hbox)).trans hbox)
      refine hKc.out _ _ (fun _ => hS) ?_
      clear hKc Kc
      refine anyZ_take (i := 5) (g := 5) (v := ?_) rfl (by kernel_rfl) (by kernel_rfl) (by kernel_rfl) (by kernel_rfl) (by kernel_rfl) (fun _ _ _ h => h) (Or.inl ⟨by kernel_rfl, ?_⟩) hS ?_
      rotate_left
      · intro V hV
        go_simp
        (try with_reducible rfl)
      simp only [put_list, List.set_cons_succ, List.set_cons_zero]
      refine anyZ_one (i := 7) (by kernel_rfl) rfl (fun Kc hKc => ?_)
      have hbx3 := HBOX.out
      obtain ⟨z0, z1, z2⟩ := cells3 hbx3
      have zf : ∀ o, W3.frozen? ⟨W0.heap.size, o, none⟩ = false := fun o => blk_free hbx3
      go_simp
      have hS5 : Below W0.heap.size W0 (((W3.setCell ⟨W0.heap.size, 0, none⟩ (.int .i64 l)).setCell ⟨W0.heap.size, 1, none⟩ (.slice so nb sc)).setCell ⟨W0.heap.size, 2, none⟩ (.slice none 0 0)) := ((hS.setCell (Nat.le_refl _) _).setCell (Nat.le_refl _) _).setCell (Nat.le_refl _) _
      refine hKc.out _ _ (fun _ => hS5) ?_
      clear hKc Kc
      refine anyZ_done (by kernel_rfl) ?_ _
      refine HREST.out W0.heap.size so sc _ (blk_set (blk_set (blk_set hbx3 _) _) _) (Nat.le_refl _) ?_ HAT.out hS5 (((HT3.out.set _ _).set _ _).set _ _)
      obtain ⟨ao2, cap2, e2, hB2, hg2⟩ := hO.ex
      cases e2
      refine ⟨_, _, rfl, ⟨hB2.lt, hB2.le, hB2.room, fun j hj => ?_, hB2.nil⟩, ?_⟩
      · obtain ⟨ad2, e2, hv2⟩ := hB2.cell j hj
        subst e2
        rcases hg2 with h | ⟨g, e, h1, h2⟩
        · cases h
        · cases e
          have hne : g ≠ W0.heap.size := HAT.out g rfl
          refine ⟨_, rfl, ?_⟩
          have hne' : ((⟨g, 0, none⟩ : Addr).add j).block ≠ W0.heap.size := by rw [add_block]; exact hne
          exact (cell_congr (Below.heap_setCell _ _ _ _ hne')).trans ((cell_congr (Below.heap_setCell _ _ _ _ hne')).trans ((cell_congr (Below.heap_setCell _ _ _ _ hne')).trans hv2))
      · rcases hg2 with h | ⟨g, e, h1, h2⟩
        · exact Or.inl h
        · exact Or.inr ⟨g, e, by omega, by simpa using h2⟩

end Go.Proofs.Ytigebmidfddbcaa
