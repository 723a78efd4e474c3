/-
  The document's decode: its walk.
-/
import Derived.Test.YtigebmidfddbcaaRDecM
namespace Go.Proofs.Ytigebmidfddbcaa
open Go.RowKit Go.Shelf

/-- How the kids of the document's decode stand. -/
structure DI (w V : World) (B : Nat) (R : Nat → Nat → Nat → Tree × Nat) (L : List (Nat × Nat × Nat × Nat)) (bs : Nat → Nat) (m k p : Nat) (wr : World) : Prop where
  row : ∃ pre kv, wr.heap[B]? = some (.cells #[.int .i64 1, .slice none 0 0, kv] 26 (0, 0)) ∧ KR V.heap.size wr kv pre ∧ pre.length = k ∧ RdTo R L k pre
  rest : ∃ fuel, m + 1 ≤ fuel + p ∧ L.drop k = pcs bs m fuel p
  pm : p ≤ m
  kp : k ≤ p
  keep : ∀ b, b < V.heap.size → b ≠ B → wr.heap[b]? = V.heap[b]?
  below : Below w.heap.size w wr
  size : V.heap.size ≤ wr.heap.size

set_option maxHeartbeats 16000000 in
set_option maxRecDepth 100000 in
theorem refDec_step (HHD : HeadOk) (d deep : Nat) (hdd : deep + d = 64)
    (IH : ∀ d', d = d' + 1 → ∀ (ao : Option Addr) (n c : Nat) (bs : Nat → Nat) (W : World), BS W ao n c bs → n ≤ 140737488355328 → Calls Try.prog 57 #[.slice ao n c, .int .i64 ((deep + 1 : Nat) : Int)] W fun e w' => DecOut W w' (rdc d' bs n) e ∧ Below W.heap.size W w')
    {ao : Option Addr} {n c : Nat} {bs : Nat → Nat} (w : World) (hB : BS w ao n c bs) (hn : n ≤ 140737488355328) :
    Calls Try.prog 57 #[.slice ao n c, .int .i64 deep] w fun e w' => DecOut w w' (rdc d bs n) e ∧ Below w.heap.size w w' := by
  have hb0 : Below w.heap.size w (w.alloc (.cells #[.int .i64 0, .slice none 0 0, .slice none 0 0] 26)) := (Below.refl _ w).alloc (Nat.le_refl _) _
  have hR0 := heap_new w (.cells #[.int .i64 0, .slice none 0 0, .slice none 0 0] 26)
  have HH := HHD _ _ _ _ _ (hB.moved hb0) hn
  have hok := hd_ok (bs := bs) (n := n)
  have hli := hd_list (bs := bs) (n := n)
  have hres : rdc d bs n = if (hd bs n).2.2.2 ≠ 0 then (.node 0 [] [], 0, (hd bs n).2.2.2) else if (rd d bs (hd bs n).1 (hd bs n).2.1 (hd bs n).2.2.1).2 ≠ 0 then (.node 0 [] [], 0, (rd d bs (hd bs n).1 (hd bs n).2.1 (hd bs n).2.2.1).2) else ((rd d bs (hd bs n).1 (hd bs n).2.1 (hd bs n).2.2.1).1, (hd bs n).2.2.1, 0) := rfl
  generalize rdc d bs n = res at *
  generalize hd bs n = h at *
  obtain ⟨pl, pf, pt, pe⟩ := h
  dsimp only at HH hok hli hres
  unfold pc at HH
  have HH := hideP HH
  have HALL := hideP (And.intro hB (And.intro hn (And.intro hok (And.intro hli (And.intro hres (And.intro IH (And.intro hb0 hR0)))))))
  clear hB hn hok hli hres IH hb0 hR0
  go_enter Try.func57, Try.ntmps57
  go_wp2_with fail
  refine HH.out.mono ?_
  rintro e W1 ⟨rfl, hb1⟩
  obtain ⟨hB, hn, hok, hli, hres, IH, hb0, hR0⟩ := HALL.out
  have hR1 := (hb1.block _ (lt_of_block hR0)).trans hR0
  have hb01 : Below w.heap.size w W1 := hb0.trans (hb1.mono hb0.size)
  have hR2 := (heap_old W1 (.cells #[.int .i64 pl, .int .i64 pf, .int .i64 pt] 40) (lt_of_block hR1)).trans hR1
  have hP2 := heap_new W1 (.cells #[.int .i64 pl, .int .i64 pf, .int .i64 pt] 40)
  have hb02 := hb01.alloc hb01.size (.cells #[.int .i64 pl, .int .i64 pf, .int .i64 pt] 40)
  have hw1 := lt_of_block hR1
  obtain ⟨r0, r1, r2⟩ := cells3 hR2
  have rf : ∀ o, (W1.alloc (.cells #[.int .i64 pl, .int .i64 pf, .int .i64 pt] 40)).frozen? ⟨w.heap.size, o, none⟩ = false := fun o => blk_free hR2
  by_cases he : pe = 0
  · subst he
    obtain ⟨o1, o2, o3, o4, o5⟩ := hok rfl
    rw [if_neg (by simp)] at hres
    obtain ⟨p0, p1, p2⟩ := cells3 hP2
    have hl1 : pl = 0 ∨ pl = 1 := by omega
    rcases hl1 with rfl | rfl
    · obtain ⟨sa, hBp, _, hsl⟩ := hB.part_at o3 o5 o1
      rw [rd_text, if_neg (by simp)] at hres
      dsimp only at hres
      have hBp3 := hBp.moved ((hb02.alloc hb02.size (.cells #[.int .i64 0, .slice none 0 0, .slice none 0 0] 26)).alloc (by have := hb02.size; simp; omega) (.cells #[] 5))
      have hm : pt - pf ≤ 140737488355328 := by omega
      have HBP := hideP hBp3
      have HM := hideP hm
      have HRES := hideP hres
      have hR3 := (heap_old _ (.cells #[.int .i64 0, .slice none 0 0, .slice none 0 0] 26) (lt_of_block hR2)).trans hR2
      have hP3 := (heap_old _ (.cells #[.int .i64 0, .slice none 0 0, .slice none 0 0] 26) (lt_of_block hP2)).trans hP2
      have hX3 := heap_new (W1.alloc (.cells #[.int .i64 0, .int .i64 pf, .int .i64 pt] 40)) (.cells #[.int .i64 0, .slice none 0 0, .slice none 0 0] 26)
      rw [World.size_alloc] at hX3
      have hR4 := (heap_old _ (.cells #[] 5) (lt_of_block hR3)).trans hR3
      have hP4 := (heap_old _ (.cells #[] 5) (lt_of_block hP3)).trans hP3
      have hX4 := (heap_old _ (.cells #[] 5) (lt_of_block hX3)).trans hX3
      have hb04 := (hb02.alloc hb02.size (.cells #[.int .i64 0, .slice none 0 0, .slice none 0 0] 26)).alloc (by have := hb02.size; simp; omega) (.cells #[] 5)
      have HW4 := hideP (And.intro hR4 (And.intro hP4 (And.intro hX4 (And.intro hb04 hw1))))
      generalize hbp : (fun j => bs (pf + j)) = bp at *
      generalize hmm : pt - pf = m at *
      clear hbp hmm hB hn hok hli hres IH hb0 hR0 hR1 hb01 hR2 hP2 hb02 hb1 HALL HH hBp hBp3 hm hR3 hP3 hX3 hR4 hP4 hX4 hb04 o1 o2 o3 o4 o5 hw1
      go_wp2_with (at_builtin; refine wpList_append_fresh rfl _ _ rfl (some ⟨W1.heap.size + 1 + 1, 0, none⟩) sa m (c - pf) rfl rfl HM.out bp HBP.out ?_)
      intro sa2 sc2 W5 h1 h2 h3
      obtain ⟨hR4, hP4, hX4, hb04, hw1⟩ := HW4.out
      have hsz4 : (((W1.alloc (.cells #[.int .i64 0, .int .i64 pf, .int .i64 pt] 40)).alloc (.cells #[.int .i64 0, .slice none 0 0, .slice none 0 0] 26)).alloc (.cells #[] 5)).heap.size = W1.heap.size + 1 + 1 + 1 := by simp
      have h3 : Below (W1.heap.size + 1 + 1 + 1) (((W1.alloc (.cells #[.int .i64 0, .int .i64 pf, .int .i64 pt] 40)).alloc (.cells #[.int .i64 0, .slice none 0 0, .slice none 0 0] 26)).alloc (.cells #[] 5)) W5 := h3
      have hR5 := (h3.block w.heap.size (by omega)).trans hR4
      have hP5 := (h3.block W1.heap.size (by omega)).trans hP4
      have hX5 := (h3.block (W1.heap.size + 1) (by omega)).trans hX4
      have hb05 : Below w.heap.size w W5 := hb04.trans (h3.mono (by omega))
      have hX6 := blk_set (o := 1) hX5 (.slice sa2 m sc2)
      have hP6 : (W5.setCell ⟨W1.heap.size + 1, 1, none⟩ (.slice sa2 m sc2)).heap[W1.heap.size]? = some (.cells #[.int .i64 0, .int .i64 pf, .int .i64 pt] 40 (0, 0)) := (Below.heap_setCell _ _ _ _ (by dsimp only; omega)).trans hP5
      have hR6 : (W5.setCell ⟨W1.heap.size + 1, 1, none⟩ (.slice sa2 m sc2)).heap[w.heap.size]? = some (.cells #[.int .i64 0, .slice none 0 0, .slice none 0 0] 26 (0, 0)) := (Below.heap_setCell _ _ _ _ (by dsimp only; omega)).trans hR5
      have hb06 : Below w.heap.size w (W5.setCell ⟨W1.heap.size + 1, 1, none⟩ (.slice sa2 m sc2)) := hb05.setCell (by dsimp only; omega) _
      have hfin : IsItem (cut w.heap.size (((((W5.setCell ⟨W1.heap.size + 1, 1, none⟩ (.slice sa2 m sc2)).setCell ⟨w.heap.size, 0, none⟩ (.int .i64 0)).setCell ⟨w.heap.size, 1, none⟩ (.slice sa2 m sc2)).setCell ⟨w.heap.size, 2, none⟩ (.slice none 0 0)))) (.node 0 (pay bp m) []) (.agg #[.int .i64 0, .slice sa2 m sc2, .slice none 0 0]) ∧ Below w.heap.size w (((((W5.setCell ⟨W1.heap.size + 1, 1, none⟩ (.slice sa2 m sc2)).setCell ⟨w.heap.size, 0, none⟩ (.int .i64 0)).setCell ⟨w.heap.size, 1, none⟩ (.slice sa2 m sc2)).setCell ⟨w.heap.size, 2, none⟩ (.slice none 0 0))) := by
        refine ⟨?_, ((hb06.setCell (Nat.le_refl _) _).setCell (Nat.le_refl _) _).setCell (Nat.le_refl _) _⟩
        have hbs : BS (cut w.heap.size (((((W5.setCell ⟨W1.heap.size + 1, 1, none⟩ (.slice sa2 m sc2)).setCell ⟨w.heap.size, 0, none⟩ (.int .i64 0)).setCell ⟨w.heap.size, 1, none⟩ (.slice sa2 m sc2)).setCell ⟨w.heap.size, 2, none⟩ (.slice none 0 0)))) sa2 m sc2 (lb (pay bp m)) := by
          by_cases hm0 : m = 0
          · subst hm0
            rcases h1 with ⟨_, rfl, rfl, _⟩ | ⟨hh, _⟩
            · exact BS.empty _ _ _ (lb_pay_lt HBP.out.lt 0)
            · omega
          · have hB5 := h2 (by omega)
            obtain rfl : sa2 = some ⟨W1.heap.size + 1 + 1 + 1, 0, none⟩ := by
              rcases h1 with ⟨hh, _⟩ | ⟨_, e⟩
              · omega
              · exact e
            refine ⟨lb_pay_lt HBP.out.lt m, hB5.le, hB5.room, fun j hj => ⟨_, rfl, ?_⟩, fun h => by cases h⟩
            obtain ⟨ad, e, hc⟩ := hB5.cell j hj
            cases e
            rw [lb_pay hj]
            have hblk : ((⟨W1.heap.size + 1 + 1 + 1, 0, none⟩ : Addr).add j).block = W1.heap.size + 1 + 1 + 1 := add_block _ _
            have ne1 : ((⟨W1.heap.size + 1 + 1 + 1, 0, none⟩ : Addr).add j).block ≠ w.heap.size := by omega
            have ne2 : ((⟨W1.heap.size + 1 + 1 + 1, 0, none⟩ : Addr).add j).block ≠ W1.heap.size + 1 := by omega
            exact cut_cell.2 ⟨by omega, (cell_congr (Below.heap_setCell _ _ _ _ ne1)).trans ((cell_congr (Below.heap_setCell _ _ _ _ ne1)).trans ((cell_congr (Below.heap_setCell _ _ _ _ ne1)).trans ((cell_congr (Below.heap_setCell _ _ _ _ ne2)).trans hc)))⟩
        have hpl : (pay bp m).length = m := pay_length bp m
        have := item_of_parts (l := 0) (b := pay bp m) (k := []) (so := sa2) (ka := none) (c := sc2) (c' := 0) (by rw [hpl]; exact hbs) ⟨Nat.le_refl _, Nat.zero_le _, Or.inl ⟨rfl, rfl⟩⟩ (by unfold IsKids; trivial)
        rw [hpl] at this
        exact this
      have HF := hideP hfin
      have HX6 := hideP (And.intro hX6 (And.intro hP6 hR6))
      obtain ⟨x0', x1', x2'⟩ := cells3 hX5
      have xf : ∀ o, W5.frozen? ⟨W1.heap.size + 1, o, none⟩ = false := fun o => blk_free hX5
      have HNE : Hid (W1.heap.size + 1 ≠ w.heap.size ∧ W1.heap.size ≠ w.heap.size) := hideP ⟨by omega, by omega⟩
      clear h1 h2 h3 hR4 hP4 hX4 hb04 hw1 hsz4 hR5 hP5 hX5 hb05 hX6 hP6 hR6 hb06 hfin HW4 HBP HM r0 r1 r2 rf
      go_wp2_with fail
      obtain ⟨hX9, hP9, hR9⟩ := HX6.out
      have hfin := HF.out
      generalize W5.setCell ⟨W1.heap.size + 1, 1, none⟩ (.slice sa2 m sc2) = W6 at *
      obtain ⟨z0, z1, z2⟩ := cells3 hR9
      have zf : ∀ o, W6.frozen? ⟨w.heap.size, o, none⟩ = false := fun o => blk_free hR9
      have hne1 := HNE.out.1
      have hne2 := HNE.out.2
      have hX9 : W6.heap[W1.heap.size + 1]? = some (.cells #[.int .i64 0, .slice sa2 m sc2, .slice none 0 0] 26 (0, 0)) := hX9
      clear HF HX6 HNE x0' x1' x2' xf hR9
      generalize W1.heap.size + 1 = XB at *
      generalize W1.heap.size = PB at *
      rename_i K1 hK1 hX9o
      have HK1 := hideP hK1
      clear hK1
      refine region_lateK [] (fun V => V.heap[XB]? = some (.cells #[.int .i64 0, .slice sa2 m sc2, .slice none 0 0] 26 (0, 0)) ∧ V.heap[PB]? = some (.cells #[.int .i64 0, .int .i64 pf, .int .i64 pt] 40 (0, 0))) (by kernel_rfl) ⟨hX9, hP9⟩ (fun hS => ?_)
      refine anyZ_take (i := 0) (g := 5) (v := ?_) rfl (by kernel_rfl) (by kernel_rfl) (by kernel_rfl) (by kernel_rfl) (by kernel_rfl) (fun _ _ _ h => h) (Or.inl ⟨by kernel_rfl, ?_⟩) hS ?_
      rotate_left
      · intro V0 hV
        obtain ⟨x0, x1, x2⟩ := cells3 hV.1
        go_simp
        (try with_reducible rfl)
      simp only [put_list, List.set_cons_succ, List.set_cons_zero]
      refine anyZ_take (i := 1) (g := 5) (v := ?_) rfl (by kernel_rfl) (by kernel_rfl) (by kernel_rfl) (by kernel_rfl) (by kernel_rfl) (fun _ _ _ h => h) (Or.inl ⟨by kernel_rfl, ?_⟩) hS ?_
      rotate_left
      · intro V0 hV
        go_simp
        (try with_reducible rfl)
      simp only [put_list, List.set_cons_succ, List.set_cons_zero]
      refine anyZ_take (i := 2) (g := 5) (v := ?_) rfl (by kernel_rfl) (by kernel_rfl) (by kernel_rfl) (by kernel_rfl) (by kernel_rfl) (fun _ _ _ h => h) (Or.inl ⟨by kernel_rfl, ?_⟩) hS ?_
      rotate_left
      · intro V0 hV
        obtain ⟨y0, y1, y2⟩ := cells3 hV.2
        go_simp
        (try with_reducible rfl)
      simp only [put_list, List.set_cons_succ, List.set_cons_zero]
      refine anyZ_one (i := 3) (by kernel_rfl) rfl (fun Kc hKc => ?_)
      go_simp
      refine hKc.out _ _ (fun _ => ⟨(Below.heap_setCell _ _ _ _ hne1).trans ((Below.heap_setCell _ _ _ _ hne1).trans ((Below.heap_setCell _ _ _ _ hne1).trans hX9)), (Below.heap_setCell _ _ _ _ hne2).trans ((Below.heap_setCell _ _ _ _ hne2).trans ((Below.heap_setCell _ _ _ _ hne2).trans hP9))⟩) ?_
      clear hKc Kc
      refine anyZ_one (i := 4) (by kernel_rfl) rfl (fun Kc hKc => ?_)
      go_simp
      refine hKc.out _ _ (fun _ => ⟨(Below.heap_setCell _ _ _ _ hne1).trans ((Below.heap_setCell _ _ _ _ hne1).trans ((Below.heap_setCell _ _ _ _ hne1).trans hX9)), (Below.heap_setCell _ _ _ _ hne2).trans ((Below.heap_setCell _ _ _ _ hne2).trans ((Below.heap_setCell _ _ _ _ hne2).trans hP9))⟩) ?_
      clear hKc Kc
      refine anyZ_one (i := 5) (by kernel_rfl) rfl (fun Kc hKc => ?_)
      go_simp
      refine hKc.out _ _ (fun _ => ⟨(Below.heap_setCell _ _ _ _ hne1).trans ((Below.heap_setCell _ _ _ _ hne1).trans ((Below.heap_setCell _ _ _ _ hne1).trans hX9)), (Below.heap_setCell _ _ _ _ hne2).trans ((Below.heap_setCell _ _ _ _ hne2).trans ((Below.heap_setCell _ _ _ _ hne2).trans hP9))⟩) ?_
      clear hKc Kc
      refine anyZ_done (by kernel_rfl) ?_ _
      change K1 _ _
      refine HK1.out _ _ ?_
      have HE9 := hideP (And.intro hS hfin)
      clear hS hX9 hP9 HK1
      go_wp2_with fail
      refine bodyPost_ret (v := .tuple #[.agg #[.int .i64 0, .slice sa2 m sc2, .slice none 0 0], .int .i64 pt, .int .i64 0]) (by simp [results, Try.results57, go_sem, z0, z1, z2, World.cell?_setCell_same]) rfl ?_
      rw [HRES.out]
      refine ⟨⟨_, rfl, ?_⟩, HE9.out.2.2.drew⟩
      refine IsItem.mono (fun a u hc => ?_) HE9.out.2.1
      obtain ⟨e1, e2⟩ := cut_cell.1 hc
      exact cut_cell.2 ⟨e1, e2⟩
    · have e11 : ((1 : Nat) : Int) = 1 := rfl
      rw [e11] at p0 p1 p2 r0 r1 r2 rf hR2 hP2 hb02 ⊢
      clear e11
      have hb03 := hb02.alloc hb02.size (.cells #[.int .i64 1, .slice none 0 0, .slice none 0 0] 26)
      have hR3 := (heap_old (W1.alloc (.cells #[.int .i64 1, .int .i64 pf, .int .i64 pt] 40)) (.cells #[.int .i64 1, .slice none 0 0, .slice none 0 0] 26) (lt_of_block hR2)).trans hR2
      have hP3 := (heap_old (W1.alloc (.cells #[.int .i64 1, .int .i64 pf, .int .i64 pt] 40)) (.cells #[.int .i64 1, .slice none 0 0, .slice none 0 0] 26) (lt_of_block hP2)).trans hP2
      have hX3 := heap_new (W1.alloc (.cells #[.int .i64 1, .int .i64 pf, .int .i64 pt] 40)) (.cells #[.int .i64 1, .slice none 0 0, .slice none 0 0] 26)
      rw [World.size_alloc] at hX3
      have hb03 : Below w.heap.size w ((W1.alloc (.cells #[.int .i64 1, .int .i64 pf, .int .i64 pt] 40)).alloc (.cells #[.int .i64 1, .slice none 0 0, .slice none 0 0] 26)) := hb03
      have hR3 : ((W1.alloc (.cells #[.int .i64 1, .int .i64 pf, .int .i64 pt] 40)).alloc (.cells #[.int .i64 1, .slice none 0 0, .slice none 0 0] 26)).heap[w.heap.size]? = some (.cells #[.int .i64 0, .slice none 0 0, .slice none 0 0] 26 (0, 0)) := hR3
      have hP3 : ((W1.alloc (.cells #[.int .i64 1, .int .i64 pf, .int .i64 pt] 40)).alloc (.cells #[.int .i64 1, .slice none 0 0, .slice none 0 0] 26)).heap[W1.heap.size]? = some (.cells #[.int .i64 1, .int .i64 pf, .int .i64 pt] 40 (0, 0)) := hP3
      obtain ⟨s0, s1, s2⟩ := cells3 hR3
      have sf : ∀ o, ((W1.alloc (.cells #[.int .i64 1, .int .i64 pf, .int .i64 pt] 40)).alloc (.cells #[.int .i64 1, .slice none 0 0, .slice none 0 0] 26)).frozen? ⟨w.heap.size, o, none⟩ = false := fun o => blk_free hR3
      cases d with
      | zero =>
        have g64 : (deep : Int) ≥ 64 := by omega
        have g64' : (64 : Int) ≤ (deep : Int) := by omega
        rw [rd_deep, if_pos (by simp)] at hres
        have HRES := hideP hres
        have HB := hideP hb03
        clear hB hn hok hli hres IH hb0 hR0 hR1 hb01 hR2 hP2 hb02 hb1 HALL HH o1 o2 o3 o4 o5 hdd hb03 hR3 hP3 hX3 hw1 r0 r1 r2 rf
        go_wp2_with fail
        refine bodyPost_ret (v := .tuple #[.agg #[.int .i64 0, .slice none 0 0, .slice none 0 0], .int .i64 0, .int .i64 44]) (by simp [results, Try.results57, go_sem, s0, s1, s2, World.cell?_setCell_same]) rfl ?_
        rw [HRES.out]
        refine ⟨⟨_, rfl, isItem_zero _⟩, ?_⟩
        exact ((HB.out.setCell (Nat.le_refl _) _).setCell (Nat.le_refl _) _).setCell (Nat.le_refl _) _
      | succ d' =>
        have g64 : ¬ (deep : Int) ≥ 64 := by omega
        have g64' : ¬ (64 : Int) ≤ (deep : Int) := by omega
        have ew : IntKind.i64.wrap ((deep : Int) + 1) = ((deep + 1 : Nat) : Int) := by rw [IntKind.wrap_i64]; omega
        rw [rd_list] at hres
        have IH := IH d' rfl
        have hlen := pcs_len (fun j => bs (pf + j)) (pt - pf) (pt - pf + 1) 0
        have hli2 := hli rfl rfl
        have hVB : w.heap.size < W1.heap.size := hw1
        have hszV : ((W1.alloc (.cells #[.int .i64 1, .int .i64 pf, .int .i64 pt] 40)).alloc (.cells #[.int .i64 1, .slice none 0 0, .slice none 0 0] 26)).heap.size = W1.heap.size + 1 + 1 := by simp
        have hI0 : DI w ((W1.alloc (.cells #[.int .i64 1, .int .i64 pf, .int .i64 pt] 40)).alloc (.cells #[.int .i64 1, .slice none 0 0, .slice none 0 0] 26)) (W1.heap.size + 1) (rd d' (fun j => bs (pf + j))) (pcs (fun j => bs (pf + j)) (pt - pf) (pt - pf + 1) 0) (fun j => bs (pf + j)) (pt - pf) 0 0 ((W1.alloc (.cells #[.int .i64 1, .int .i64 pf, .int .i64 pt] 40)).alloc (.cells #[.int .i64 1, .slice none 0 0, .slice none 0 0] 26)) :=
          ⟨⟨[], _, hX3, KR.nil _ _, rfl, RdTo.zero _ _⟩, ⟨pt - pf + 1, by omega, List.drop_zero ..⟩, Nat.zero_le _, Nat.le_refl _, fun _ _ _ => rfl, hb03, Nat.le_refl _⟩
        have HI0 := hideP hI0
        have HL := hideP (And.intro hB (And.intro hn (And.intro hres (And.intro IH (And.intro hlen (And.intro hli2 (And.intro hVB (And.intro hszV (And.intro hR3 (And.intro hP3 (And.intro o1 (And.intro o3 (And.intro o5 hdd)))))))))))))
        clear hB hn hok hli hres IH hb0 hR0 hR1 hb01 hR2 hP2 hb02 hb1 HALL HH o1 o2 o3 o4 o5 hdd hb03 hR3 hP3 hX3 hlen hli2 hVB hszV hI0 hw1 r0 r1 r2 rf
        go_wp2_with fail
        generalize hVV : (W1.alloc (.cells #[.int .i64 1, .int .i64 pf, .int .i64 pt] 40)).alloc (.cells #[.int .i64 1, .slice none 0 0, .slice none 0 0] 26) = V at *
        clear hVV
        go_loopw [10] (fun i wr => ∃ (p k : Nat), i = .int .i64 ((pf + p : Nat) : Int) ∧ Hid (DI w V (W1.heap.size + 1) (rd d' (fun j => bs (pf + j))) (pcs (fun j => bs (pf + j)) (pt - pf) (pt - pf + 1) 0) (fun j => bs (pf + j)) (pt - pf) k p wr)) (fun i _ => pt - (intOf i).toNat)
        case atStart => exact ⟨0, 0, rfl, HI0⟩
        case round =>
          obtain ⟨p, k, rfl, hDI⟩ := hrel
          obtain ⟨hB, hn, hres, IH, hlen, hli2, hVB, hszV, hR3, hP3, o1, o3, o5, hdd⟩ := HL.out
          obtain ⟨pre, kv, hbx, hKR, hpl, hto⟩ := hDI.out.row
          obtain ⟨ka, kc, rfl⟩ := hKR.len
          obtain ⟨fuel, hfu, hrest⟩ := hDI.out.rest
          have hpm := hDI.out.pm
          have hkp := hDI.out.kp
          have hbw := hDI.out.below
          have hVr := hDI.out.size
          have hRr := (hDI.out.keep w.heap.size (by omega) (by omega)).trans hR3
          have hPr := (hDI.out.keep W1.heap.size (by omega) (by omega)).trans hP3
          obtain ⟨q0, q1, q2⟩ := cells3 hPr
          by_cases hgo : p < pt - pf
          · obtain ⟨sa, hBp, _, hsl⟩ := hB.part_at (l := pf + p) (k := pt) (by omega) o5 o1
            have hkid := dec_kid hto hrest hgo hfu
            have hcall := IH sa (pt - (pf + p)) (c - (pf + p)) (fun j => bs (pf + p + j)) wr (hBp.moved hbw) (by omega)
            have hbb : (fun j => bs (pf + (p + j))) = fun j => bs (pf + p + j) := by funext j; rw [Nat.add_assoc]
            rw [show pt - pf - p = pt - (pf + p) by omega] at hkid
            rw [hbb] at hkid
            generalize rdc d' (fun j => bs (pf + p + j)) (pt - (pf + p)) = rr at *
            obtain ⟨rt, ru, re⟩ := rr
            dsimp only at hkid
            have hlt : ((pf + p : Nat) : Int) < (pt : Int) := by omega
            have HC := hideP hcall
            have HM := hideP (And.intro hbx (And.intro hKR (And.intro hpl (And.intro hto (And.intro hkid (And.intro hpm (And.intro hkp (And.intro hbw (And.intro hVr (And.intro hRr hPr))))))))))
            clear hB hn hres IH hlen hli2 hVB hszV hR3 hP3 o1 o3 o5 hdd hbx hKR hpl hto hrest hfu hpm hkp hbw hVr hRr hPr hBp hkid hcall hbb hgo
            generalize hap : pf + p = ap at *
            generalize pt - ap = mp at *
            generalize c - ap = cp at *
            go_wp2_with fail
            refine HC.out.mono ?_
            rintro e W4 ⟨⟨v, rfl, hIt⟩, hb4⟩
            obtain ⟨hbx, hKR, hpl, hto, hkid, hpm, hkp, hbw, hVr, hRr, hPr⟩ := HM.out
            obtain ⟨hB, hn, hres, IH, hlen, hli2, hVB, hszV, hR3, hP3, o1, o3, o5, hdd⟩ := HL.out
            cases rt with
            | node tl tb tk =>
            have hIt' := hIt
            obtain ⟨ta, tc, ta', tc', rfl, _, _, _⟩ := hIt'.form
            have hs4 := hb4.size
            have hws := hbw.size
            have hR4 := (hb4.block w.heap.size (by omega)).trans hRr
            by_cases hre : re = 0
            · subst hre
              obtain ⟨hto', hru, hpu, hrest'⟩ := hkid.2 rfl
              have hb5 : Below W4.heap.size W4 (W4.alloc (.cells #[.int .i64 tl, .slice ta tb.length tc, .slice ta' tk.length tc'] 26)) := (Below.refl _ W4).alloc (Nat.le_refl _) _
              have hb6 : Below W4.heap.size W4 ((W4.alloc (.cells #[.int .i64 tl, .slice ta tb.length tc, .slice ta' tk.length tc'] 26)).alloc (.cells #[.int .i64 tl, .slice ta tb.length tc, .slice ta' tk.length tc'] 26)) := hb5.alloc (by simp) _
              have hBV : W1.heap.size + 1 < V.heap.size := by omega
              have hbx4 := (hb4.block (W1.heap.size + 1) (by omega)).trans hbx
              have hbx6 := (hb6.block (W1.heap.size + 1) (by omega)).trans hbx4
              have hsz6 : ((W4.alloc (.cells #[.int .i64 tl, .slice ta tb.length tc, .slice ta' tk.length tc'] 26)).alloc (.cells #[.int .i64 tl, .slice ta tb.length tc, .slice ta' tk.length tc'] 26)).heap.size = W4.heap.size + 1 + 1 := by simp
              have hlit : ((W4.alloc (.cells #[.int .i64 tl, .slice ta tb.length tc, .slice ta' tk.length tc'] 26)).alloc (.cells #[.int .i64 tl, .slice ta tb.length tc, .slice ta' tk.length tc'] 26)).heap[W4.heap.size + 1]? = some (.cells #[.int .i64 tl, .slice ta tb.length tc, .slice ta' tk.length tc'] 26 (0, 0)) := by
                have := heap_new (W4.alloc (.cells #[.int .i64 tl, .slice ta tb.length tc, .slice ta' tk.length tc'] 26)) (.cells #[.int .i64 tl, .slice ta tb.length tc, .slice ta' tk.length tc'] 26)
                rwa [World.size_alloc] at this
              obtain ⟨n0, n1, n2⟩ := cells3 hlit
              have hgoK : ∀ b o, wr.heap[b]? = some o → ((W4.alloc (.cells #[.int .i64 tl, .slice ta tb.length tc, .slice ta' tk.length tc'] 26)).alloc (.cells #[.int .i64 tl, .slice ta tb.length tc, .slice ta' tk.length tc'] 26)).heap[b]? = some o := fun b o ho => by
                have h1 := (hb4.block b (lt_of_block ho)).trans ho
                exact (hb6.block b (lt_of_block h1)).trans h1
              have hKR6 : KR V.heap.size ((W4.alloc (.cells #[.int .i64 tl, .slice ta tb.length tc, .slice ta' tk.length tc'] 26)).alloc (.cells #[.int .i64 tl, .slice ta tb.length tc, .slice ta' tk.length tc'] 26)) (.slice ka pre.length kc) pre := hKR.same fun b o _ ho _ => hgoK b o ho
              have hit6 : IsItem (cutR V.heap.size (Value.slice ka pre.length kc).ownBlock ((W4.alloc (.cells #[.int .i64 tl, .slice ta tb.length tc, .slice ta' tk.length tc'] 26)).alloc (.cells #[.int .i64 tl, .slice ta tb.length tc, .slice ta' tk.length tc'] 26))) (.node tl tb tk) (.agg #[.int .i64 tl, .slice ta tb.length tc, .slice ta' tk.length tc']) := hIt.mono fun a u hc => by
                obtain ⟨h1, h2⟩ := cut_cell.1 hc
                exact cutR_cell.2 ⟨by omega, fun e => by have := (hKR.lt e).2; omega, (hb6.cell (p := a) (World.block_lt_of_cell? _ _ h2)).trans h2⟩
              obtain ⟨g, cap, W7, hrun, hKR7, hgr, hat7, hg7, hb7⟩ := hKR6.append (by omega) (by omega) hit6 ⟨W4.heap.size + 1, 0, none⟩ 1 24 n0 n1 n2
              have hBg : W1.heap.size + 1 ≠ g := by
                rcases hat7 with h | h
                · have := (hKR.lt h).1; omega
                · omega
              have hbx7 : W7.heap[W1.heap.size + 1]? = some (.cells #[.int .i64 1, .slice none 0 0, .slice ka pre.length kc] 26 (0, 0)) := (hb7.block (W1.heap.size + 1) hBV).trans hbx6
              have hDI8 : DI w V (W1.heap.size + 1) (rd d' (fun j => bs (pf + j))) (pcs (fun j => bs (pf + j)) (pt - pf) (pt - pf + 1) 0) (fun j => bs (pf + j)) (pt - pf) (k + 1) (p + ru) (W7.setCell ⟨W1.heap.size + 1, 2, none⟩ (.slice (some ⟨g, 0, none⟩) (pre.length + 1) cap)) := by
                have hb68 : ∀ b, b < V.heap.size → b ≠ W1.heap.size + 1 → (W7.setCell ⟨W1.heap.size + 1, 2, none⟩ (.slice (some ⟨g, 0, none⟩) (pre.length + 1) cap)).heap[b]? = wr.heap[b]? := fun b h1 h2 =>
                  (Below.heap_setCell _ _ _ _ h2).trans ((hb7.block b h1).trans ((hb6.block b (by omega)).trans (hb4.block b (by omega))))
                refine ⟨⟨pre ++ [.node tl tb tk], _, blk_set hbx7 _, hKR7.same (fun b o h1 h2 _ => (Below.heap_setCell _ _ _ _ (by dsimp only; omega)).trans h2), by rw [List.length_append, hpl]; rfl, hto'⟩, hrest', hpu, by omega, fun b h1 h2 => (hb68 b h1 h2).trans (hDI.out.keep b h1 h2), ?_, ?_⟩
                · exact (((hbw.trans (hb4.mono hws)).trans (hb6.mono (by omega))).trans (hb7.mono (by omega))).setCell (by dsimp only; omega) _
                · have := hb7.size
                  simp
                  omega
              have HDI8 := hideP hDI8
              have e2 : IntKind.i64.wrap ((ap : Int) + (ru : Int)) = ((pf + (p + ru) : Nat) : Int) := by rw [IntKind.wrap_i64]; omega
              have hms : ap < pf + (p + ru) ∧ ap < pt := ⟨by omega, by omega⟩
              generalize ha2 : pf + (p + ru) = a2 at *
              have HA2 := hideP ha2
              have HMS := hideP hms
              have HRUN := hideP hrun
              obtain ⟨u0, u1, u2⟩ := cells3 hbx4
              have v2 := blk_cell hbx7 (o := 2) rfl
              have vf : ∀ o, W7.frozen? ⟨W1.heap.size + 1, o, none⟩ = false := fun o => blk_free hbx7
              have hkx := heap_new W4 (.cells #[.int .i64 tl, .slice ta tb.length tc, .slice ta' tk.length tc'] 26)
              obtain ⟨k0, k1, k2⟩ := cells3 hkx
              have hb5c := (hb5.cell (p := ⟨W1.heap.size + 1, 2, none⟩) (by dsimp only; omega)).trans u2
              clear hbx hKR hpl hto hkid hpm hkp hbw hVr hRr hPr hB hn hres IH hlen hli2 hVB hszV hR3 hP3 o1 o3 o5 hdd hIt hIt' hb4 hs4 hws hR4 hto' hru hpu hrest' hb5 hb6 hBV hbx4 hbx6 hsz6 hlit n0 n1 n2 hgoK hKR6 hit6 hrun hKR7 hgr hat7 hg7 hb7 hBg hbx7 hDI8 hkx HC HM hDI u0 u1 ha2 hms hap hlt
              generalize hnt : tb.length = nt at *
              generalize hnt' : tk.length = nt' at *
              generalize hpn : pre.length = pn at *
              clear hnt hnt' hpn
              go_wp2_with (at_builtin; refine wpList_append_run rfl _ _ 24 rfl rfl rfl rfl HRUN.out ?_)
              exact ⟨⟨p + ru, k + 1, by rw [HA2.out], HDI8⟩, by have := HMS.out; simp [intOf]; omega⟩
            · have hre' : ¬ (re : Int) = 0 := by omega
              have hR5 := (heap_old W4 (.cells #[.int .i64 tl, .slice ta tb.length tc, .slice ta' tk.length tc'] 26) (lt_of_block hR4)).trans hR4
              have hb5 : Below w.heap.size w (W4.alloc (.cells #[.int .i64 tl, .slice ta tb.length tc, .slice ta' tk.length tc'] 26)) := (hbw.trans (hb4.mono hws)).alloc (by omega) _
              have hrd := hkid.1 hre
              simp [hrd, hre] at hres
              obtain ⟨z0, z1, z2⟩ := cells3 hR5
              have zf : ∀ o, (W4.alloc (.cells #[.int .i64 tl, .slice ta tb.length tc, .slice ta' tk.length tc'] 26)).frozen? ⟨w.heap.size, o, none⟩ = false := fun o => blk_free hR5
              have HRES := hideP hres
              have HB := hideP hb5
              clear hbx hKR hpl hto hkid hpm hkp hbw hVr hRr hPr hB hn hres IH hlen hli2 hVB hszV hR3 hP3 o1 o3 o5 hdd hIt hIt' hb4 hs4 hws hR4 hR5 hb5 hrd HC HM hDI hap hlt
              generalize hnt : tb.length = nt at *
              generalize hnt' : tk.length = nt' at *
              clear hnt hnt'
              go_wp2_with fail
              refine bodyPost_ret (v := .tuple #[.agg #[.int .i64 0, .slice none 0 0, .slice none 0 0], .int .i64 0, .int .i64 re]) (by simp [results, Try.results57, go_sem, z0, z1, z2, World.cell?_setCell_same]) rfl ?_
              rw [HRES.out]
              refine ⟨⟨_, rfl, isItem_zero _⟩, ?_⟩
              exact ((HB.out.setCell (Nat.le_refl _) _).setCell (Nat.le_refl _) _).setCell (Nat.le_refl _) _
          · have hrd := dec_end hto hrest hgo
            have hlt : ¬ ((pf + p : Nat) : Int) < (pt : Int) := by omega
            simp [hrd] at hres
            have hws := hbw.size
            have hfin : IsItem (cut w.heap.size (((wr.setCell ⟨w.heap.size, 0, none⟩ (.int .i64 1)).setCell ⟨w.heap.size, 1, none⟩ (.slice none 0 0)).setCell ⟨w.heap.size, 2, none⟩ (.slice ka pre.length kc))) (.node 1 [] pre) (.agg #[.int .i64 1, .slice none 0 0, .slice ka pre.length kc]) ∧ Below w.heap.size w (((wr.setCell ⟨w.heap.size, 0, none⟩ (.int .i64 1)).setCell ⟨w.heap.size, 1, none⟩ (.slice none 0 0)).setCell ⟨w.heap.size, 2, none⟩ (.slice ka pre.length kc)) := by
              refine ⟨hKR.item.mono fun a u hc => ?_, ((hbw.setCell (Nat.le_refl _) _).setCell (Nat.le_refl _) _).setCell (Nat.le_refl _) _⟩
              obtain ⟨h1, h2⟩ := cut_cell.1 hc
              have hne : a.block ≠ w.heap.size := by omega
              exact cut_cell.2 ⟨by omega, (cell_congr (Below.heap_setCell _ _ _ _ hne)).trans ((cell_congr (Below.heap_setCell _ _ _ _ hne)).trans ((cell_congr (Below.heap_setCell _ _ _ _ hne)).trans h2))⟩
            have HF := hideP hfin
            have HRES := hideP hres
            have hX9 := hbx
            have hP9 := hPr
            have hR9 := hRr
            have HNE : Hid (W1.heap.size + 1 ≠ w.heap.size ∧ W1.heap.size ≠ w.heap.size) := hideP ⟨by omega, by omega⟩
            have HX9 := hideP (And.intro hX9 (And.intro hP9 hR9))
            clear hB hn hres IH hlen hli2 hVB hszV hR3 hP3 o1 o3 o5 hdd hbx hKR hpl hto hrest hfu hpm hkp hbw hVr hRr hPr hgo hrd hws hfin hDI hX9 hP9 hR9
            generalize hpn : pre.length = pn at *
            clear hpn
            generalize pf + p = ap at *
            go_wp2_with fail
            obtain ⟨hX9, hP9, hR9⟩ := HX9.out
            obtain ⟨z0, z1, z2⟩ := cells3 hR9
            have zf : ∀ o, wr.frozen? ⟨w.heap.size, o, none⟩ = false := fun o => blk_free hR9
            have hne1 := HNE.out.1
            have hne2 := HNE.out.2
            clear HX9 HNE hR9 q0 q1 q2
            rename_i K1 hK1
            have HK1 := hideP hK1
            clear hK1
            refine region_lateK [] (fun V => V.heap[(W1.heap.size + 1)]? = some (.cells #[.int .i64 1, .slice none 0 0, .slice ka pn kc] 26 (0, 0)) ∧ V.heap[W1.heap.size]? = some (.cells #[.int .i64 1, .int .i64 pf, .int .i64 pt] 40 (0, 0))) (by kernel_rfl) ⟨hX9, hP9⟩ (fun hS => ?_)
            refine anyZ_take (i := 0) (g := 5) (v := ?_) rfl (by kernel_rfl) (by kernel_rfl) (by kernel_rfl) (by kernel_rfl) (by kernel_rfl) (fun _ _ _ h => h) (Or.inl ⟨by kernel_rfl, ?_⟩) hS ?_
            rotate_left
            · intro V0 hV
              obtain ⟨x0, x1, x2⟩ := cells3 hV.1
              go_simp
              (try with_reducible rfl)
            simp only [put_list, List.set_cons_succ, List.set_cons_zero]
            refine anyZ_take (i := 1) (g := 5) (v := ?_) rfl (by kernel_rfl) (by kernel_rfl) (by kernel_rfl) (by kernel_rfl) (by kernel_rfl) (fun _ _ _ h => h) (Or.inl ⟨by kernel_rfl, ?_⟩) hS ?_
            rotate_left
            · intro V0 hV
              go_simp
              (try with_reducible rfl)
            simp only [put_list, List.set_cons_succ, List.set_cons_zero]
            refine anyZ_take (i := 2) (g := 5) (v := ?_) rfl (by kernel_rfl) (by kernel_rfl) (by kernel_rfl) (by kernel_rfl) (by kernel_rfl) (fun _ _ _ h => h) (Or.inl ⟨by kernel_rfl, ?_⟩) hS ?_
            rotate_left
            · intro V0 hV
              obtain ⟨y0, y1, y2⟩ := cells3 hV.2
              go_simp
              (try with_reducible rfl)
            simp only [put_list, List.set_cons_succ, List.set_cons_zero]
            refine anyZ_one (i := 3) (by kernel_rfl) rfl (fun Kc hKc => ?_)
            go_simp
            refine hKc.out _ _ (fun _ => ⟨(Below.heap_setCell _ _ _ _ hne1).trans ((Below.heap_setCell _ _ _ _ hne1).trans ((Below.heap_setCell _ _ _ _ hne1).trans hX9)), (Below.heap_setCell _ _ _ _ hne2).trans ((Below.heap_setCell _ _ _ _ hne2).trans ((Below.heap_setCell _ _ _ _ hne2).trans hP9))⟩) ?_
            clear hKc Kc
            refine anyZ_one (i := 4) (by kernel_rfl) rfl (fun Kc hKc => ?_)
            go_simp
            refine hKc.out _ _ (fun _ => ⟨(Below.heap_setCell _ _ _ _ hne1).trans ((Below.heap_setCell _ _ _ _ hne1).trans ((Below.heap_setCell _ _ _ _ hne1).trans hX9)), (Below.heap_setCell _ _ _ _ hne2).trans ((Below.heap_setCell _ _ _ _ hne2).trans ((Below.heap_setCell _ _ _ _ hne2).trans hP9))⟩) ?_
            clear hKc Kc
            refine anyZ_one (i := 5) (by kernel_rfl) rfl (fun Kc hKc => ?_)
            go_simp
            refine hKc.out _ _ (fun _ => ⟨(Below.heap_setCell _ _ _ _ hne1).trans ((Below.heap_setCell _ _ _ _ hne1).trans ((Below.heap_setCell _ _ _ _ hne1).trans hX9)), (Below.heap_setCell _ _ _ _ hne2).trans ((Below.heap_setCell _ _ _ _ hne2).trans ((Below.heap_setCell _ _ _ _ hne2).trans hP9))⟩) ?_
            clear hKc Kc
            refine anyZ_done (by kernel_rfl) ?_ _
            change K1 _ _
            refine HK1.out _ _ ?_
            have HE9 := hideP (And.intro hS HF.out)
            clear hS hX9 hP9 HK1
            go_wp2_with fail
            refine bodyPost_ret (v := .tuple #[.agg #[.int .i64 1, .slice none 0 0, .slice ka pn kc], .int .i64 pt, .int .i64 0]) (by simp [results, Try.results57, go_sem, z0, z1, z2, World.cell?_setCell_same]) rfl ?_
            rw [HRES.out]
            refine ⟨⟨_, rfl, ?_⟩, HE9.out.2.2.drew⟩
            refine IsItem.mono (fun a u hc => ?_) HE9.out.2.1
            obtain ⟨e1, e2⟩ := cut_cell.1 hc
            exact cut_cell.2 ⟨e1, e2⟩
  · rw [if_pos he] at hres
    have he' : ¬ (pe : Int) = 0 := by omega
    have HRES := hideP hres
    have HB := hideP hb02
    clear hB hn hok hli hres IH hb0 hR0 hR1 hb01 hR2 hP2 hb02 hb1 HALL HH hw1
    go_wp2_with fail
    refine bodyPost_ret (v := .tuple #[.agg #[.int .i64 0, .slice none 0 0, .slice none 0 0], .int .i64 0, .int .i64 pe]) (by simp [results, Try.results57, go_sem, r0, r1, r2, World.cell?_setCell_same]) rfl ?_
    rw [HRES.out]
    refine ⟨⟨_, rfl, isItem_zero _⟩, ?_⟩
    exact ((HB.out.setCell (Nat.le_refl _) _).setCell (Nat.le_refl _) _).setCell (Nat.le_refl _) _

end Go.Proofs.Ytigebmidfddbcaa
