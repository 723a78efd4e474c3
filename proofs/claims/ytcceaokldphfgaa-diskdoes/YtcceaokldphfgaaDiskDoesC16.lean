/- YtcceaokldphfgaaDiskDoesC16 -/
import Derived.Lib.Overlaps
import Derived.Test.YtcceaokldphfgaaDiskDoesC15
import Derived.Test.YtcceaokldphfgaaDiskDoesC10
namespace Go.Proofs.Ytcceaokldphfgaa
open Go.RowKit Go.Shelf

theorem Try.size82 : (Try.prog.info? 82).map (·.size) = some 1 := by kernel_rfl

/-- What lies in a block of plain cells lies apart of another one. -/
theorem overlaps_run (w : World) (b g o lb cb : Nat) (hne : b ≠ g) (C D : Array Value) (tb tg : TypeId) (hb : w.heap[b]? = some (.cells C tb (0, 0))) (hg : w.heap[g]? = some (.cells D tg (0, 0))) (hD : D.size ≠ 0) :
    (callFunc 85 #[.slice (some ⟨b, 0, none⟩) 1 1, .slice (some ⟨g, o, none⟩) lb cb]).run Try.prog w = .ok (.value (.bool false)) w := by
  rw [run_callFunc_extern Try.func85 (by kernel_rfl) (by kernel_rfl) (by kernel_rfl) (e := Extern.SlicesOverlaps.overlaps #[49, 49] #[4]) (by kernel_rfl),
    Lib.run_overlaps_apart w 49 4 82 Try.underlying49 1 (fun w => by kernel_rfl) ⟨b, 0, none⟩ ⟨g, o, none⟩ 1 1 lb cb hne tb tg C.size D.size (by simp [World.shape?, hb]) (by simp [World.shape?, hg]) hD (by simp [World.frozen?, hb]) (by simp [World.frozen?, hb])]
  rfl

theorem length_splice {α : Type} (L cs : List α) (off : Nat) (h : off + cs.length ≤ L.length) : (splice L off cs).length = L.length := by
  simp [splice]; omega

/-- The elements from i on go up by one, and p comes to i. -/
theorem splice_ins {α : Type} (cur xs : List α) (n i : Nat) (p : α) (hx : cur.take n = xs) (_hn : n < cur.length) (hi : i < n) :
    (splice (splice cur (i + 1) (xs.drop i)) i [p]).take (n + 1) = xs.take i ++ p :: xs.drop i := by
  have hxl : xs.length = n := by rw [← hx, List.length_take]; omega
  have h1 : cur.take i = xs.take i := by rw [← hx, List.take_take, Nat.min_eq_left (by omega)]
  have h2 : (splice cur (i + 1) (xs.drop i)).take i = xs.take i := by
    unfold splice
    rw [List.take_append_of_le_length (by simp; omega), List.take_take, Nat.min_eq_left (by omega), h1]
  have h3 : (splice cur (i + 1) (xs.drop i)).drop (i + 1) = xs.drop i ++ cur.drop (i + 1 + (xs.drop i).length) := by
    unfold splice
    exact List.drop_left' (by simp; omega)
  have h4 : splice (splice cur (i + 1) (xs.drop i)) i [p] = xs.take i ++ p :: xs.drop i ++ cur.drop (i + 1 + (xs.drop i).length) := by
    have : splice (splice cur (i + 1) (xs.drop i)) i [p] = (splice cur (i + 1) (xs.drop i)).take i ++ ([p] ++ (splice cur (i + 1) (xs.drop i)).drop (i + 1)) := rfl
    rw [this, h2, h3]
    simp
  rw [h4]
  exact List.take_left' (by simp; omega)

theorem own_split {w : World} {e n g cap : Nat} {xs : List Value} (h : w.ownsRow 0 e 1 (.slice (some ⟨g, 0, none⟩) n cap) n xs) : ∃ cur : List Value, w.heap[g]? = some (.cells cur.toArray e (0, 0)) ∧ n ≤ cap ∧ cap ≤ maxLen ∧ cur.length = cap ∧ cur.take n = xs := by
  obtain ⟨cur, h1, _, h2⟩ := own_row h
  exact ⟨cur, h1, h2⟩

set_option maxHeartbeats 1000000 in
set_option maxRecDepth 100000 in
/-- slices.Insert of one file ahead of others, where there is room. -/
theorem Insert_room (g n cap i : Nat) (xs : List Value) (b p : Nat) (w : World) (hown : w.ownsRow 0 82 1 (.slice (some ⟨g, 0, none⟩) n cap) n xs) (h1 : ∀ v ∈ xs, v.oneCell' = true) (hi : i < n) (hn : n < cap) (hb : w.heap[b]? = some (.cells #[.pointer (some ⟨p, 0, none⟩)] 82 (0, 0))) (hne : b ≠ g) :
    Calls Try.prog 78 #[.slice (some ⟨g, 0, none⟩) n cap, .int .i64 i, .slice (some ⟨b, 0, none⟩) 1 1] w fun r w' => r = .returned (.slice (some ⟨g, 0, none⟩) (n + 1) cap) ∧ w'.ownsRow 0 82 1 (.slice (some ⟨g, 0, none⟩) (n + 1) cap) (n + 1) (xs.take i ++ .pointer (some ⟨p, 0, none⟩) :: xs.drop i) ∧ Grew w w' (.slice (some ⟨g, 0, none⟩) n cap) (.slice (some ⟨g, 0, none⟩) (n + 1) cap) := by
  obtain ⟨cur, hg, hnc, hcm, hcl, hct⟩ := own_split hown
  have hxl : xs.length = n := by rw [← hct, List.length_take]; omega
  have hov : ∀ o lb cb, (callFunc 85 #[.slice (some ⟨b, 0, none⟩) 1 1, .slice (some ⟨g, o, none⟩) lb cb]).run Try.prog w = .ok (.value (.bool false)) w := fun o lb cb => overlaps_run w b g o lb cb hne _ _ _ _ hb hg (by rw [List.size_toArray]; omega)
  obtain ⟨w1, hr1, hg1, hw1⟩ := copy_run (P := Try.prog) w.drew 49 3 82 Try.underlying49 Try.size82 (some ⟨g, i + 1, none⟩) (some ⟨g, i, none⟩) (n - i) (cap - (i + 1)) (n + 1 - i) (cap - i) g (i + 1) cur 82 hg (xs.drop i) (by rw [List.length_drop, hxl]; simp only [Nat.min_def]; split <;> omega)
    (fun _ => ⟨rfl, _, rfl, fun j v hj => by
      rw [Addr.add_lit]
      refine blk_cell hg ?_
      rw [List.getElem?_drop, ← hct, List.getElem?_take] at hj
      split at hj
      · simpa using hj
      · cases hj⟩) (by simp; omega) (fun v hv => h1 v (List.mem_of_mem_drop hv))
  have hb1 : w1.heap[b]? = some (.cells #[.pointer (some ⟨p, 0, none⟩)] 82 (0, 0)) := (hw1.block b (Array.getElem?_eq_some_iff.1 hb).1 (fun e => hne (by cases e; rfl))).trans hb
  obtain ⟨w2, hr2, hg2, hw2⟩ := copy_run (P := Try.prog) w1 49 3 82 Try.underlying49 Try.size82 (some ⟨g, i, none⟩) (some ⟨b, 0, none⟩) (n + 1 - i) (cap - i) 1 1 g i (splice cur (i + 1) (xs.drop i)) 82 hg1 [.pointer (some ⟨p, 0, none⟩)] (by simp only [List.length_cons, List.length_nil, Nat.min_def]; split <;> omega)
    (fun _ => ⟨rfl, _, rfl, fun j v hj => by
      rw [Addr.add_lit]
      refine blk_cell hb1 ?_
      match j, hj with
      | 0, hj => simpa using hj
      | j + 1, hj => simp at hj⟩) (by rw [length_splice _ _ _ (by simp; omega)]; simp; omega) (fun v hv => by simp at hv; rw [hv]; rfl)
  have hown2 : w2.ownsRow 0 82 1 (.slice (some ⟨g, 0, none⟩) (n + 1) cap) (n + 1) (xs.take i ++ .pointer (some ⟨p, 0, none⟩) :: xs.drop i) := by
    refine own_mk hg2 (Nat.zero_le _) hn hcm ?_ (splice_ins cur xs n i _ hct (by omega) hi)
    rw [length_splice, length_splice, hcl]
    · simp; omega
    · rw [length_splice] <;> simp <;> omega
  have hgr : Grew w w2 (.slice (some ⟨g, 0, none⟩) n cap) (.slice (some ⟨g, 0, none⟩) (n + 1) cap) := by
    refine ⟨?_, fun k hk => .inl hk⟩
    have h0 : w.grownBy w.drew (some g) := ⟨rfl, rfl, rfl, Nat.le_refl _, fun _ _ _ => rfl⟩
    exact (h0.trans hw1).trans hw2
  have HQ := hideP (And.intro hown2 hgr)
  simp only [maxLen] at hcm
  have hz2 : ((i : Int) == (n : Int)) = false := by simp; omega
  have hw1' : IntKind.i64.wrap ((i : Int) + 1) = (i : Int) + 1 := by rw [IntKind.wrap_i64]; omega
  have hq1 : ¬ (cap = i + 1) := by omega
  have hq2 : ¬ (cap = i) := by omega
  have htn : ((i : Int) + 1).toNat = i + 1 := by omega
  have HR1 := hideP hr1
  have HR2 := hideP hr2
  clear hown hb hb1 hg hg1 hg2 hown2 hgr hct hcl hr1 hr2 hw1 hw2 h1 hxl
  go_enter Try.func78, Try.ntmps78
  go_wp2_with (simp only [hov])
  have hr1' := HR1.out
  go_region
  clear hr1'
  have hr2' := HR2.out
  go_wp2
  go_ret
  exact ⟨rfl, HQ.out⟩

theorem splice_ins2 {α : Type} (cur xs : List α) (n i : Nat) (p : α) (hx : cur.take i = xs.take i) (hl : xs.length = n)  (hi : i < n) :
    (splice (splice cur i [p]) (i + 1) (xs.drop i)).take (n + 1) = xs.take i ++ p :: xs.drop i := by
  have h1 : (splice cur i [p]).take (i + 1) = xs.take i ++ [p] := by
    unfold splice
    rw [hx, ← List.append_assoc]
    exact List.take_left' (by simp; omega)
  have h2 : splice (splice cur i [p]) (i + 1) (xs.drop i) = (splice cur i [p]).take (i + 1) ++ (xs.drop i ++ (splice cur i [p]).drop (i + 1 + (xs.drop i).length)) := rfl
  rw [h2, h1]
  have h3 : xs.take i ++ p :: xs.drop i = (xs.take i ++ [p]) ++ xs.drop i := by simp
  rw [h3, ← List.append_assoc]
  exact List.take_left' (by simp; omega)

set_option maxHeartbeats 1000000 in
set_option maxRecDepth 100000 in
/-- slices.Insert of one file ahead of others, where there is no room. -/
theorem Insert_grow (g n i : Nat) (xs : List Value) (b p : Nat) (w : World) (hown : w.ownsRow 0 82 1 (.slice (some ⟨g, 0, none⟩) n n) n xs) (h1 : ∀ v ∈ xs, v.oneCell' = true) (hi : i < n) (hn : n ≤ 4096) (hb : w.heap[b]? = some (.cells #[.pointer (some ⟨p, 0, none⟩)] 82 (0, 0))) :
    Calls Try.prog 78 #[.slice (some ⟨g, 0, none⟩) n n, .int .i64 i, .slice (some ⟨b, 0, none⟩) 1 1] w fun r w' => ∃ a c, r = .returned (.slice a (n + 1) c) ∧ w'.ownsRow 0 82 1 (.slice a (n + 1) c) (n + 1) (xs.take i ++ .pointer (some ⟨p, 0, none⟩) :: xs.drop i) ∧ Grew w w' (.slice (some ⟨g, 0, none⟩) n n) (.slice a (n + 1) c) := by
  obtain ⟨cur, hg, hnc, hcm, hcl, hct⟩ := own_split hown
  have hxl : xs.length = n := by rw [← hct, List.length_take]; omega
  obtain ⟨i0, hi0, hz0, hzs, hzb⟩ := info_parts Try.info82
  have hgl := (Array.getElem?_eq_some_iff.1 hg).1
  have hbl := (Array.getElem?_eq_some_iff.1 hb).1
  have hold : (Builtin.firstCells i0.size i (.slice (some ⟨g, 0, none⟩) i n)).run Try.prog w.drew = .ok (xs.take i).toArray w.drew := by
    rw [hzs]
    exact run_firstCells_some w.drew 1 i ⟨g, 0, none⟩ i n (xs.take i) (by rw [List.length_take]; omega) (fun j v hj => by
      rw [Addr.add_lit]
      refine blk_cell hg ?_
      rw [List.getElem?_take] at hj
      split at hj
      · rw [← hct, List.getElem?_take] at hj
        split at hj
        · simpa using hj
        · cases hj
      · cases hj)
  have hr0 := Lib.run_append_grow_zeros (P := Try.prog) w 49 3 49 82 i0 (.pointer none) .i64 .i64 Try.underlying49 Try.underlying3 hi0 hz0 (some ⟨g, 0, none⟩) i n (xs.take i) hold (n + 1 - i) (by omega) (by omega) (by omega) (by omega) (by rw [hzb]; omega) (by rw [hzb]; exact growslice_fits (by omega) (by omega))
  have hik : i + (n + 1 - i) = n + 1 := by omega
  rw [hik] at hr0
  have hge := grownCap_ge w (n + 1) n 82
  have hcm : grownCap w (n + 1) n 82 ≤ maxLen := grownCap_le_maxLen w (n + 1) n 82 (by unfold maxLen; omega)
  obtain ⟨G, hG⟩ : ∃ G, G = grownCap w (n + 1) n 82 := ⟨_, rfl⟩
  rw [← hG] at hr0 hge hcm
  obtain ⟨C, hC⟩ : ∃ C : List Value, C = xs.take i ++ List.replicate (n + 1 - i) (.pointer none) ++ List.replicate (G - (n + 1)) (.pointer none) := ⟨_, rfl⟩
  have hCl : C.length = G := by rw [hC]; simp; omega
  have hCt : C.take i = xs.take i := by
    rw [hC, List.append_assoc]
    exact List.take_left' (by simp; omega)
  have hCe : (xs.take i).toArray ++ Builtin.zeroCells (Value.pointer none).cells (n + 1 - i) ++ Builtin.zeroCells (Value.pointer none).cells (G - (n + 1)) = C.toArray := by
    rw [hC]
    simp [Value.cells, zeroCells_one]
  rw [hCe] at hr0
  obtain ⟨w0, hw0⟩ : ∃ w0, w0 = w.drew.alloc (.cells C.toArray 82) := ⟨_, rfl⟩
  rw [← hw0] at hr0
  have hg0 : w0.heap[w.heap.size]? = some (.cells C.toArray 82 (0, 0)) := by rw [hw0]; exact heap_alloc_new w.drew _
  have hbw : Below w.heap.size w w0 := by rw [hw0]; exact ((Below.refl _ w).drew).alloc (Nat.le_refl _) _
  have hb0 := (hbw.block b hbl).trans hb
  have hgo := (hbw.block g hgl).trans hg
  obtain ⟨w1, hr1, hg1, hw1⟩ := copy_run (P := Try.prog) w0 49 3 82 Try.underlying49 Try.size82 (some ⟨w.heap.size, i, none⟩) (some ⟨b, 0, none⟩) (n + 1 - i) (G - i) 1 1 w.heap.size i C 82 hg0 [.pointer (some ⟨p, 0, none⟩)] (by simp only [List.length_cons, List.length_nil, Nat.min_def]; split <;> omega)
    (fun _ => ⟨rfl, _, rfl, fun j v hj => by
      rw [Addr.add_lit]
      refine blk_cell hb0 ?_
      match j, hj with
      | 0, hj => simpa using hj
      | j + 1, hj => simp at hj⟩) (by simp; omega) (fun v hv => by simp at hv; rw [hv]; rfl)
  have hz0' : w0.heap.size = w.heap.size + 1 := by rw [hw0]; simp
  have hgo1 : w1.drew.heap[g]? = _ := (hw1.block g (by omega) (fun e => by simp at e; omega)).trans hgo
  obtain ⟨w2, hr2, hg2, hw2⟩ := copy_run (P := Try.prog) w1.drew 49 3 82 Try.underlying49 Try.size82 (some ⟨w.heap.size, i + 1, none⟩) (some ⟨g, i, none⟩) (n - i) (G - (i + 1)) (n - i) (n - i) w.heap.size (i + 1) (splice C i [.pointer (some ⟨p, 0, none⟩)]) 82 hg1 (xs.drop i) (by rw [List.length_drop, hxl]; simp only [Nat.min_def]; split <;> omega)
    (fun _ => ⟨rfl, _, rfl, fun j v hj => by
      rw [Addr.add_lit]
      refine blk_cell hgo1 ?_
      rw [List.getElem?_drop, ← hct, List.getElem?_take] at hj
      split at hj
      · simpa using hj
      · cases hj⟩) (by rw [length_splice _ _ _ (by simp; omega)]; simp; omega) (fun v hv => h1 v (List.mem_of_mem_drop hv))
  have hown2 : w2.ownsRow 0 82 1 (.slice (some ⟨w.heap.size, 0, none⟩) (n + 1) G) (n + 1) (xs.take i ++ .pointer (some ⟨p, 0, none⟩) :: xs.drop i) := by
    refine own_mk hg2 (Nat.zero_le _) hge hcm ?_ (splice_ins2 C xs n i _ hCt hxl hi)
    rw [length_splice, length_splice, hCl]
    · simp; omega
    · rw [length_splice] <;> simp <;> omega
  have hgr : Grew w w2 (.slice (some ⟨g, 0, none⟩) n n) (.slice (some ⟨w.heap.size, 0, none⟩) (n + 1) G) := by
    refine ⟨⟨hw2.os.trans (hw1.os.trans hbw.os), hw2.tape.trans (hw1.tape.trans hbw.tape), hw2.output.trans (hw1.output.trans hbw.output), ?_, fun k hk _ => ?_⟩, fun k hk => .inr ?_⟩
    · have := hw1.size; have := hw2.size; have h5 : w1.drew.heap.size = w1.heap.size := rfl; omega
    · have h5 : w1.drew.heap.size = w1.heap.size := rfl
      have := hw1.size
      refine (hw2.block k (by omega) (fun e => by simp at e; omega)).trans ((hw1.block k (by omega) (fun e => by simp at e; omega)).trans (hbw.block k hk))
    · simp only [Value.ownBlock, Option.some.injEq] at hk; omega
  have HQ := hideP (And.intro hown2 hgr)
  simp only [maxLen] at hcm
  have hz2 : ((i : Int) == (n : Int)) = false := by simp; omega
  have hz3 : (n : Int) + 1 - (i : Int) = ((n + 1 - i : Nat) : Int) := by omega
  have hw1' : IntKind.i64.wrap ((i : Int) + 1) = (i : Int) + 1 := by rw [IntKind.wrap_i64]; omega
  have hw2' : IntKind.i64.wrap ((n : Int) + 1 - (i : Int)) = (n : Int) + 1 - (i : Int) := by rw [IntKind.wrap_i64]; omega
  have hq1 : ¬ (G = i + 1) := by omega
  have hq2 : ¬ (G = i) := by omega
  have hq3 : ¬ (n = i) := by omega
  have htn : ((i : Int) + 1).toNat = i + 1 := by omega
  rw [← hz3] at hr0
  have HR0 := hideP hr0
  have HR1 := hideP hr1
  have HR2 := hideP hr2
  clear hown hb hb0 hg hg1 hg2 hown2 hgr hct hcl hr0 hr1 hr2 hw1 hw2 h1 hxl hw0 hg0 hbw hgo hz0' hgo1 hold hCe hCt hCl hC hG hz3
  go_enter Try.func78, Try.ntmps78
  have hr1' := HR1.out
  go_wp2_with (at_builtin; go_loud (refine Lib.wpList_append_run _ rfl _ _ 49 3 rfl _ _ rfl rfl _ _ HR0.out ?_))
  have hr2' := HR2.out
  go_region
  go_wp2
  go_ret
  exact ⟨_, _, rfl, HQ.out⟩

end Go.Proofs.Ytcceaokldphfgaa
