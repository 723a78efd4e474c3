import Derived.Test.YtcceaokldphfgaaTwin2
namespace Go.Proofs.Ytcceaokldphfgaa
open Go.RowKit Go.Shelf

/-- A row of new memory stays while only later blocks are written. -/
theorem own_below {w w' : World} {base e size n : Nat} {v : Value} {xs : List Value} (h : w.ownsRow base e size v n xs) (hb : Below w.heap.size w w') : w'.ownsRow base e size v n xs := by
  refine ⟨h.1, ?_⟩
  rcases h.2 with hn | ⟨g, cap, cur, h1, h2, hg, h4⟩
  · exact .inl hn
  · exact .inr ⟨g, cap, cur, h1, h2, (hb.block g (Array.getElem?_eq_some_iff.1 hg).1).trans hg, h4⟩

set_option maxHeartbeats 4000000 in
set_option maxRecDepth 100000 in
theorem do_nob (w : World) (p : Option Addr) (h : Nob w p) (k at_ long : Int) (nm to : ByteArray) (a : Option Addr) (c : Nat) (l : List UInt8)
   (cr ro : Int) (a1 a2 a3 : Option Addr) (c1 c2 c3 : Nat) (x1 x2 x3 : List Value) (hs : a = none → l = [] ∧ c = 0) (ha : ∀ b, a = some b → l ≠ [] → b.block < w.heap.size) (hx : ∀ b, a = some b → ∀ j u, l[j]? = some u → w.cell? (b.add j) = some (byteV u)) (hl : l.length ≤ 140737488355328) 
   (h1 : RdS w a1 c1 x1 8) (h2 : RdS w a2 c2 x2 8) (h3 : RdS w a3 c3 x3 8) :
    Calls Try.prog 14 #[.pointer p, .agg #[.int .i64 k, .string nm, .string to, .int .i64 at_, .int .i64 long, .slice a l.length c, .int .i64 cr, .slice a1 x1.length c1, .slice a2 x2.length c2, .slice a3 x3.length c3, .int .i64 ro]] w fun e w' => e = .returned (.int .i64 10) ∧ Below w.heap.size w w' := by
  generalize hn : l.length = n
  generalize hn1 : x1.length = n1
  generalize hn2 : x2.length = n2
  generalize hn3 : x3.length = n3
  obtain ⟨W0, hW0⟩ : ∃ W0, W0 = w.alloc (.cells #[.int .i64 k, .string nm, .string to, .int .i64 at_, .int .i64 long, .slice a n c, .int .i64 cr, .slice a1 n1 c1, .slice a2 n2 c2, .slice a3 n3 c3, .int .i64 ro] 35) := ⟨_, rfl⟩
  have hb0 : Below w.heap.size w W0 := by rw [hW0]; exact (Below.refl _ w).alloc (Nat.le_refl _) _
  have hsz0 : W0.heap.size = w.heap.size + 1 := by rw [hW0]; simp
  have hB0 : W0.heap[w.heap.size]? = some (.cells #[.int .i64 k, .string nm, .string to, .int .i64 at_, .int .i64 long, .slice a n c, .int .i64 cr, .slice a1 n1 c1, .slice a2 n2 c2, .slice a3 n3 c3, .int .i64 ro] 35 (0, 0)) := by
    rw [hW0]; exact World.alloc_heap_new w _
  have ht := twin_any a c l W0 hs (fun b e j u hu => (hb0.cell (p := b.add j) (by rw [add_block]; exact ha b e (by rintro rfl; simp at hu))).trans (hx b e j u hu)) hl
  rw [hn] at ht hl
  have HW0 := hideP hW0
  have HB0 := hideP hB0
  clear hB0 hW0
  go_enter Try.func14, Try.ntmps14
  go_wp2_with (fail)
  rw [← HW0.out]
  refine ht.mono ?_
  rintro e W1 ⟨v, rfl, hov, hb1⟩
  obtain ⟨d, cd, rfl⟩ := own_shape hov
  have HOV := hideP hov
  have HB1 := hideP (show W1.heap[w.heap.size]? = _ from (hb1.block w.heap.size (by omega)).trans HB0.out)
  have HBW := hideP (hb0.trans (hb1.mono (by omega)))
  have hN := nob_still h HBW.out
  have q0 : W1.cell? ⟨w.heap.size, 0, none⟩ = some (.int .i64 k) := blk_cell (o := 0) HB1.out rfl
  have q1 : W1.cell? ⟨w.heap.size, 1, none⟩ = some (.string nm) := blk_cell (o := 1) HB1.out rfl
  have q2 : W1.cell? ⟨w.heap.size, 2, none⟩ = some (.string to) := blk_cell (o := 2) HB1.out rfl
  have q3 : W1.cell? ⟨w.heap.size, 3, none⟩ = some (.int .i64 at_) := blk_cell (o := 3) HB1.out rfl
  have q4 : W1.cell? ⟨w.heap.size, 4, none⟩ = some (.int .i64 long) := blk_cell (o := 4) HB1.out rfl
  have q6 : W1.cell? ⟨w.heap.size, 6, none⟩ = some (.int .i64 cr) := blk_cell (o := 6) HB1.out rfl
  have q7 : W1.cell? ⟨w.heap.size, 7, none⟩ = some (.slice a1 n1 c1) := blk_cell (o := 7) HB1.out rfl
  have q8 : W1.cell? ⟨w.heap.size, 8, none⟩ = some (.slice a2 n2 c2) := blk_cell (o := 8) HB1.out rfl
  have q9 : W1.cell? ⟨w.heap.size, 9, none⟩ = some (.slice a3 n3 c3) := blk_cell (o := 9) HB1.out rfl
  have q10 : W1.cell? ⟨w.heap.size, 10, none⟩ = some (.int .i64 ro) := blk_cell (o := 10) HB1.out rfl
  have hk0 := nob_create hN nm
  have hk1 := nob_append hN nm (.slice d n cd)
  have hk2 := nob_writeAt hN nm at_ (.slice d n cd)
  have hk3 := nob_truncate hN nm long
  have hk4 := nob_sync hN nm
  have hk5 := nob_rename hN nm to
  have hk6 := nob_remove hN nm
  have hk8 := nob_read hN nm at_ long
  have hp := planTwin_any W1 cr ro a1 a2 a3 c1 c2 c3 x1 x2 x3 (h1.later HBW.out) (h2.later HBW.out) (h3.later HBW.out)
  rw [hn1, hn2, hn3] at hp
  have HN := hideP hN
  have HNL := hideP hn
  have HSZ := hideP hsz0
  have HL := hideP hl
  clear ht hov hb1 hb0 h hN hn hn1 hn2 hn3 h1 h2 h3 hx ha hs hsz0 hl
  by_cases e0 : k = 0
  · subst e0
    go_wp2_with (go_at_call 29; refine hk0.mono ?_; rintro e w' ⟨rfl, rfl⟩)
    go_loopw [7, 83] (fun _ i wr => ∃ (j : Nat) (ys : List Value), j ≤ n ∧ i = .int .i64 j ∧ ys.length = n ∧ (∀ v ∈ ys, ∃ x : Int, v = .int .u8 x) ∧ wr.ownsRow W0.heap.size 5 1 (.slice d n cd) n ys ∧ Below w.heap.size w wr) (fun _ i _ => n - (intOf i).toNat)
    case atStart => exact ⟨0, l.map byteV, Nat.zero_le _, rfl, by simp [HNL.out], fun v hv => by simp only [List.mem_map] at hv; obtain ⟨u, _, rfl⟩ := hv; exact ⟨_, rfl⟩, HOV.out, HBW.out⟩
    case round =>
      obtain ⟨j, ys, hj, rfl, hy, hby, ho, hbw⟩ := hrel
      have HL2 : n ≤ 140737488355328 := HL.out
      have HB2 := hideP hbw
      have HY := hideP hy
      have HBY := hideP hby
      have HO := hideP ho
      by_cases hlt : j < n
      · obtain ⟨g, rfl⟩ : ∃ g, d = some ⟨g, 0, none⟩ := by
          rcases ho.2 with ⟨h', _⟩ | ⟨g', cap, cur, h', _⟩
          · simp only [Value.slice.injEq] at h'; omega
          · simp only [Value.slice.injEq] at h'; exact ⟨g', h'.1⟩
        obtain ⟨x, hx⟩ := hby ys[j] (List.getElem_mem (by omega))
        have hc : wr.cell? ⟨g, j, none⟩ = some (.int .u8 x) := by
          rw [ho.cellAt j (by omega), List.getElem?_eq_getElem (by omega), hx]
        have hf : wr.frozen? ⟨g, j, none⟩ = false := ho.frozenAt j
        have hg : W0.heap.size ≤ g := (ho.lt g rfl).1
        have HG := hideP hg
        clear hx hby hy ho hbw hg
        go_wp2
        go_roundw
        case rel =>
          refine ⟨j + 1, ys.set j (.int .u8 (bits .xor .u8 x 85)), by omega, by go_num, by simp [HY.out], ?_, (HO.out.stored j _).1, HB2.out.setCell (p := ⟨g, j, none⟩) (by have := HG.out; have := HSZ.out; show w.heap.size ≤ g; omega) _⟩
          intro v hv
          rcases List.mem_or_eq_of_mem_set hv with h | rfl
          · exact HBY.out v h
          · exact ⟨_, rfl⟩
        case measure => simp [intOf]; omega
      · have : j = n := by omega
        subst this
        clear hby hy ho hbw
        go_wp2
        go_ret
        exact ⟨rfl, HB2.out⟩
  by_cases e1 : k = 1
  · subst e1
    go_wp2_with (go_at_call 30; refine hk1.mono ?_; rintro e w' ⟨rfl, rfl⟩)
    go_loopw [7, 83] (fun _ i wr => ∃ (j : Nat) (ys : List Value), j ≤ n ∧ i = .int .i64 j ∧ ys.length = n ∧ (∀ v ∈ ys, ∃ x : Int, v = .int .u8 x) ∧ wr.ownsRow W0.heap.size 5 1 (.slice d n cd) n ys ∧ Below w.heap.size w wr) (fun _ i _ => n - (intOf i).toNat)
    case atStart => exact ⟨0, l.map byteV, Nat.zero_le _, rfl, by simp [HNL.out], fun v hv => by simp only [List.mem_map] at hv; obtain ⟨u, _, rfl⟩ := hv; exact ⟨_, rfl⟩, HOV.out, HBW.out⟩
    case round =>
      obtain ⟨j, ys, hj, rfl, hy, hby, ho, hbw⟩ := hrel
      have HL2 : n ≤ 140737488355328 := HL.out
      have HB2 := hideP hbw
      have HY := hideP hy
      have HBY := hideP hby
      have HO := hideP ho
      by_cases hlt : j < n
      · obtain ⟨g, rfl⟩ : ∃ g, d = some ⟨g, 0, none⟩ := by
          rcases ho.2 with ⟨h', _⟩ | ⟨g', cap, cur, h', _⟩
          · simp only [Value.slice.injEq] at h'; omega
          · simp only [Value.slice.injEq] at h'; exact ⟨g', h'.1⟩
        obtain ⟨x, hx⟩ := hby ys[j] (List.getElem_mem (by omega))
        have hc : wr.cell? ⟨g, j, none⟩ = some (.int .u8 x) := by
          rw [ho.cellAt j (by omega), List.getElem?_eq_getElem (by omega), hx]
        have hf : wr.frozen? ⟨g, j, none⟩ = false := ho.frozenAt j
        have hg : W0.heap.size ≤ g := (ho.lt g rfl).1
        have HG := hideP hg
        clear hx hby hy ho hbw hg
        go_wp2
        go_roundw
        case rel =>
          refine ⟨j + 1, ys.set j (.int .u8 (bits .xor .u8 x 85)), by omega, by go_num, by simp [HY.out], ?_, (HO.out.stored j _).1, HB2.out.setCell (p := ⟨g, j, none⟩) (by have := HG.out; have := HSZ.out; show w.heap.size ≤ g; omega) _⟩
          intro v hv
          rcases List.mem_or_eq_of_mem_set hv with h | rfl
          · exact HBY.out v h
          · exact ⟨_, rfl⟩
        case measure => simp [intOf]; omega
      · have : j = n := by omega
        subst this
        clear hby hy ho hbw
        go_wp2
        go_ret
        exact ⟨rfl, HB2.out⟩
  by_cases e2 : k = 2
  · subst e2
    go_wp2_with (go_at_call 33; refine hk2.mono ?_; rintro e w' ⟨rfl, rfl⟩)
    go_loopw [7, 83] (fun _ i wr => ∃ (j : Nat) (ys : List Value), j ≤ n ∧ i = .int .i64 j ∧ ys.length = n ∧ (∀ v ∈ ys, ∃ x : Int, v = .int .u8 x) ∧ wr.ownsRow W0.heap.size 5 1 (.slice d n cd) n ys ∧ Below w.heap.size w wr) (fun _ i _ => n - (intOf i).toNat)
    case atStart => exact ⟨0, l.map byteV, Nat.zero_le _, rfl, by simp [HNL.out], fun v hv => by simp only [List.mem_map] at hv; obtain ⟨u, _, rfl⟩ := hv; exact ⟨_, rfl⟩, HOV.out, HBW.out⟩
    case round =>
      obtain ⟨j, ys, hj, rfl, hy, hby, ho, hbw⟩ := hrel
      have HL2 : n ≤ 140737488355328 := HL.out
      have HB2 := hideP hbw
      have HY := hideP hy
      have HBY := hideP hby
      have HO := hideP ho
      by_cases hlt : j < n
      · obtain ⟨g, rfl⟩ : ∃ g, d = some ⟨g, 0, none⟩ := by
          rcases ho.2 with ⟨h', _⟩ | ⟨g', cap, cur, h', _⟩
          · simp only [Value.slice.injEq] at h'; omega
          · simp only [Value.slice.injEq] at h'; exact ⟨g', h'.1⟩
        obtain ⟨x, hx⟩ := hby ys[j] (List.getElem_mem (by omega))
        have hc : wr.cell? ⟨g, j, none⟩ = some (.int .u8 x) := by
          rw [ho.cellAt j (by omega), List.getElem?_eq_getElem (by omega), hx]
        have hf : wr.frozen? ⟨g, j, none⟩ = false := ho.frozenAt j
        have hg : W0.heap.size ≤ g := (ho.lt g rfl).1
        have HG := hideP hg
        clear hx hby hy ho hbw hg
        go_wp2
        go_roundw
        case rel =>
          refine ⟨j + 1, ys.set j (.int .u8 (bits .xor .u8 x 85)), by omega, by go_num, by simp [HY.out], ?_, (HO.out.stored j _).1, HB2.out.setCell (p := ⟨g, j, none⟩) (by have := HG.out; have := HSZ.out; show w.heap.size ≤ g; omega) _⟩
          intro v hv
          rcases List.mem_or_eq_of_mem_set hv with h | rfl
          · exact HBY.out v h
          · exact ⟨_, rfl⟩
        case measure => simp [intOf]; omega
      · have : j = n := by omega
        subst this
        clear hby hy ho hbw
        go_wp2
        go_ret
        exact ⟨rfl, HB2.out⟩
  by_cases e3 : k = 3
  · subst e3
    go_wp2_with (go_at_call 34; refine hk3.mono ?_; rintro e w' ⟨rfl, rfl⟩)
    go_loopw [7, 83] (fun _ i wr => ∃ (j : Nat) (ys : List Value), j ≤ n ∧ i = .int .i64 j ∧ ys.length = n ∧ (∀ v ∈ ys, ∃ x : Int, v = .int .u8 x) ∧ wr.ownsRow W0.heap.size 5 1 (.slice d n cd) n ys ∧ Below w.heap.size w wr) (fun _ i _ => n - (intOf i).toNat)
    case atStart => exact ⟨0, l.map byteV, Nat.zero_le _, rfl, by simp [HNL.out], fun v hv => by simp only [List.mem_map] at hv; obtain ⟨u, _, rfl⟩ := hv; exact ⟨_, rfl⟩, HOV.out, HBW.out⟩
    case round =>
      obtain ⟨j, ys, hj, rfl, hy, hby, ho, hbw⟩ := hrel
      have HL2 : n ≤ 140737488355328 := HL.out
      have HB2 := hideP hbw
      have HY := hideP hy
      have HBY := hideP hby
      have HO := hideP ho
      by_cases hlt : j < n
      · obtain ⟨g, rfl⟩ : ∃ g, d = some ⟨g, 0, none⟩ := by
          rcases ho.2 with ⟨h', _⟩ | ⟨g', cap, cur, h', _⟩
          · simp only [Value.slice.injEq] at h'; omega
          · simp only [Value.slice.injEq] at h'; exact ⟨g', h'.1⟩
        obtain ⟨x, hx⟩ := hby ys[j] (List.getElem_mem (by omega))
        have hc : wr.cell? ⟨g, j, none⟩ = some (.int .u8 x) := by
          rw [ho.cellAt j (by omega), List.getElem?_eq_getElem (by omega), hx]
        have hf : wr.frozen? ⟨g, j, none⟩ = false := ho.frozenAt j
        have hg : W0.heap.size ≤ g := (ho.lt g rfl).1
        have HG := hideP hg
        clear hx hby hy ho hbw hg
        go_wp2
        go_roundw
        case rel =>
          refine ⟨j + 1, ys.set j (.int .u8 (bits .xor .u8 x 85)), by omega, by go_num, by simp [HY.out], ?_, (HO.out.stored j _).1, HB2.out.setCell (p := ⟨g, j, none⟩) (by have := HG.out; have := HSZ.out; show w.heap.size ≤ g; omega) _⟩
          intro v hv
          rcases List.mem_or_eq_of_mem_set hv with h | rfl
          · exact HBY.out v h
          · exact ⟨_, rfl⟩
        case measure => simp [intOf]; omega
      · have : j = n := by omega
        subst this
        clear hby hy ho hbw
        go_wp2
        go_ret
        exact ⟨rfl, HB2.out⟩
  by_cases e4 : k = 4
  · subst e4
    go_wp2_with (go_at_call 26; refine hk4.mono ?_; rintro e w' ⟨rfl, rfl⟩)
    go_loopw [7, 83] (fun _ i wr => ∃ (j : Nat) (ys : List Value), j ≤ n ∧ i = .int .i64 j ∧ ys.length = n ∧ (∀ v ∈ ys, ∃ x : Int, v = .int .u8 x) ∧ wr.ownsRow W0.heap.size 5 1 (.slice d n cd) n ys ∧ Below w.heap.size w wr) (fun _ i _ => n - (intOf i).toNat)
    case atStart => exact ⟨0, l.map byteV, Nat.zero_le _, rfl, by simp [HNL.out], fun v hv => by simp only [List.mem_map] at hv; obtain ⟨u, _, rfl⟩ := hv; exact ⟨_, rfl⟩, HOV.out, HBW.out⟩
    case round =>
      obtain ⟨j, ys, hj, rfl, hy, hby, ho, hbw⟩ := hrel
      have HL2 : n ≤ 140737488355328 := HL.out
      have HB2 := hideP hbw
      have HY := hideP hy
      have HBY := hideP hby
      have HO := hideP ho
      by_cases hlt : j < n
      · obtain ⟨g, rfl⟩ : ∃ g, d = some ⟨g, 0, none⟩ := by
          rcases ho.2 with ⟨h', _⟩ | ⟨g', cap, cur, h', _⟩
          · simp only [Value.slice.injEq] at h'; omega
          · simp only [Value.slice.injEq] at h'; exact ⟨g', h'.1⟩
        obtain ⟨x, hx⟩ := hby ys[j] (List.getElem_mem (by omega))
        have hc : wr.cell? ⟨g, j, none⟩ = some (.int .u8 x) := by
          rw [ho.cellAt j (by omega), List.getElem?_eq_getElem (by omega), hx]
        have hf : wr.frozen? ⟨g, j, none⟩ = false := ho.frozenAt j
        have hg : W0.heap.size ≤ g := (ho.lt g rfl).1
        have HG := hideP hg
        clear hx hby hy ho hbw hg
        go_wp2
        go_roundw
        case rel =>
          refine ⟨j + 1, ys.set j (.int .u8 (bits .xor .u8 x 85)), by omega, by go_num, by simp [HY.out], ?_, (HO.out.stored j _).1, HB2.out.setCell (p := ⟨g, j, none⟩) (by have := HG.out; have := HSZ.out; show w.heap.size ≤ g; omega) _⟩
          intro v hv
          rcases List.mem_or_eq_of_mem_set hv with h | rfl
          · exact HBY.out v h
          · exact ⟨_, rfl⟩
        case measure => simp [intOf]; omega
      · have : j = n := by omega
        subst this
        clear hby hy ho hbw
        go_wp2
        go_ret
        exact ⟨rfl, HB2.out⟩
  by_cases e5 : k = 5
  · subst e5
    go_wp2_with (go_at_call 35; refine hk5.mono ?_; rintro e w' ⟨rfl, rfl⟩)
    go_loopw [7, 83] (fun _ i wr => ∃ (j : Nat) (ys : List Value), j ≤ n ∧ i = .int .i64 j ∧ ys.length = n ∧ (∀ v ∈ ys, ∃ x : Int, v = .int .u8 x) ∧ wr.ownsRow W0.heap.size 5 1 (.slice d n cd) n ys ∧ Below w.heap.size w wr) (fun _ i _ => n - (intOf i).toNat)
    case atStart => exact ⟨0, l.map byteV, Nat.zero_le _, rfl, by simp [HNL.out], fun v hv => by simp only [List.mem_map] at hv; obtain ⟨u, _, rfl⟩ := hv; exact ⟨_, rfl⟩, HOV.out, HBW.out⟩
    case round =>
      obtain ⟨j, ys, hj, rfl, hy, hby, ho, hbw⟩ := hrel
      have HL2 : n ≤ 140737488355328 := HL.out
      have HB2 := hideP hbw
      have HY := hideP hy
      have HBY := hideP hby
      have HO := hideP ho
      by_cases hlt : j < n
      · obtain ⟨g, rfl⟩ : ∃ g, d = some ⟨g, 0, none⟩ := by
          rcases ho.2 with ⟨h', _⟩ | ⟨g', cap, cur, h', _⟩
          · simp only [Value.slice.injEq] at h'; omega
          · simp only [Value.slice.injEq] at h'; exact ⟨g', h'.1⟩
        obtain ⟨x, hx⟩ := hby ys[j] (List.getElem_mem (by omega))
        have hc : wr.cell? ⟨g, j, none⟩ = some (.int .u8 x) := by
          rw [ho.cellAt j (by omega), List.getElem?_eq_getElem (by omega), hx]
        have hf : wr.frozen? ⟨g, j, none⟩ = false := ho.frozenAt j
        have hg : W0.heap.size ≤ g := (ho.lt g rfl).1
        have HG := hideP hg
        clear hx hby hy ho hbw hg
        go_wp2
        go_roundw
        case rel =>
          refine ⟨j + 1, ys.set j (.int .u8 (bits .xor .u8 x 85)), by omega, by go_num, by simp [HY.out], ?_, (HO.out.stored j _).1, HB2.out.setCell (p := ⟨g, j, none⟩) (by have := HG.out; have := HSZ.out; show w.heap.size ≤ g; omega) _⟩
          intro v hv
          rcases List.mem_or_eq_of_mem_set hv with h | rfl
          · exact HBY.out v h
          · exact ⟨_, rfl⟩
        case measure => simp [intOf]; omega
      · have : j = n := by omega
        subst this
        clear hby hy ho hbw
        go_wp2
        go_ret
        exact ⟨rfl, HB2.out⟩
  by_cases e6 : k = 6
  · subst e6
    go_wp2_with (go_at_call 36; refine hk6.mono ?_; rintro e w' ⟨rfl, rfl⟩)
    go_loopw [7, 83] (fun _ i wr => ∃ (j : Nat) (ys : List Value), j ≤ n ∧ i = .int .i64 j ∧ ys.length = n ∧ (∀ v ∈ ys, ∃ x : Int, v = .int .u8 x) ∧ wr.ownsRow W0.heap.size 5 1 (.slice d n cd) n ys ∧ Below w.heap.size w wr) (fun _ i _ => n - (intOf i).toNat)
    case atStart => exact ⟨0, l.map byteV, Nat.zero_le _, rfl, by simp [HNL.out], fun v hv => by simp only [List.mem_map] at hv; obtain ⟨u, _, rfl⟩ := hv; exact ⟨_, rfl⟩, HOV.out, HBW.out⟩
    case round =>
      obtain ⟨j, ys, hj, rfl, hy, hby, ho, hbw⟩ := hrel
      have HL2 : n ≤ 140737488355328 := HL.out
      have HB2 := hideP hbw
      have HY := hideP hy
      have HBY := hideP hby
      have HO := hideP ho
      by_cases hlt : j < n
      · obtain ⟨g, rfl⟩ : ∃ g, d = some ⟨g, 0, none⟩ := by
          rcases ho.2 with ⟨h', _⟩ | ⟨g', cap, cur, h', _⟩
          · simp only [Value.slice.injEq] at h'; omega
          · simp only [Value.slice.injEq] at h'; exact ⟨g', h'.1⟩
        obtain ⟨x, hx⟩ := hby ys[j] (List.getElem_mem (by omega))
        have hc : wr.cell? ⟨g, j, none⟩ = some (.int .u8 x) := by
          rw [ho.cellAt j (by omega), List.getElem?_eq_getElem (by omega), hx]
        have hf : wr.frozen? ⟨g, j, none⟩ = false := ho.frozenAt j
        have hg : W0.heap.size ≤ g := (ho.lt g rfl).1
        have HG := hideP hg
        clear hx hby hy ho hbw hg
        go_wp2
        go_roundw
        case rel =>
          refine ⟨j + 1, ys.set j (.int .u8 (bits .xor .u8 x 85)), by omega, by go_num, by simp [HY.out], ?_, (HO.out.stored j _).1, HB2.out.setCell (p := ⟨g, j, none⟩) (by have := HG.out; have := HSZ.out; show w.heap.size ≤ g; omega) _⟩
          intro v hv
          rcases List.mem_or_eq_of_mem_set hv with h | rfl
          · exact HBY.out v h
          · exact ⟨_, rfl⟩
        case measure => simp [intOf]; omega
      · have : j = n := by omega
        subst this
        clear hby hy ho hbw
        go_wp2
        go_ret
        exact ⟨rfl, HB2.out⟩
  by_cases e7 : k = 7
  · subst e7
    go_wp2_with (first | (go_at_call 11; refine hp.mono ?_; rintro e W2 ⟨v1, v2, v3, rfl, hb2⟩; have hk7 := nob_start (nob_still HN.out hb2) cr ro v1 v2 v3; have HBE := hideP hb2; clear hb2) | (go_at_call 27; refine hk7.mono ?_; rintro e W3 ⟨rfl, hb3⟩; have HBF := hideP hb3; clear hb3))
    have HBW7 := hideP ((HBW.out.trans (HBE.out.mono HBW.out.size)).trans (HBF.out.mono (Nat.le_trans HBW.out.size HBE.out.size)))
    have HOV7 := hideP (own_below (own_below HOV.out HBE.out) HBF.out)
    go_loopw [7, 83] (fun _ i wr => ∃ (j : Nat) (ys : List Value), j ≤ n ∧ i = .int .i64 j ∧ ys.length = n ∧ (∀ v ∈ ys, ∃ x : Int, v = .int .u8 x) ∧ wr.ownsRow W0.heap.size 5 1 (.slice d n cd) n ys ∧ Below w.heap.size w wr) (fun _ i _ => n - (intOf i).toNat)
    case atStart => exact ⟨0, l.map byteV, Nat.zero_le _, rfl, by simp [HNL.out], fun v hv => by simp only [List.mem_map] at hv; obtain ⟨u, _, rfl⟩ := hv; exact ⟨_, rfl⟩, HOV7.out, HBW7.out⟩
    case round =>
      obtain ⟨j, ys, hj, rfl, hy, hby, ho, hbw⟩ := hrel
      have HL2 : n ≤ 140737488355328 := HL.out
      have HB2 := hideP hbw
      have HY := hideP hy
      have HBY := hideP hby
      have HO := hideP ho
      by_cases hlt : j < n
      · obtain ⟨g, rfl⟩ : ∃ g, d = some ⟨g, 0, none⟩ := by
          rcases ho.2 with ⟨h', _⟩ | ⟨g', cap, cur, h', _⟩
          · simp only [Value.slice.injEq] at h'; omega
          · simp only [Value.slice.injEq] at h'; exact ⟨g', h'.1⟩
        obtain ⟨x, hx⟩ := hby ys[j] (List.getElem_mem (by omega))
        have hc : wr.cell? ⟨g, j, none⟩ = some (.int .u8 x) := by
          rw [ho.cellAt j (by omega), List.getElem?_eq_getElem (by omega), hx]
        have hf : wr.frozen? ⟨g, j, none⟩ = false := ho.frozenAt j
        have hg : W0.heap.size ≤ g := (ho.lt g rfl).1
        have HG := hideP hg
        clear hx hby hy ho hbw hg
        go_wp2
        go_roundw
        case rel =>
          refine ⟨j + 1, ys.set j (.int .u8 (bits .xor .u8 x 85)), by omega, by go_num, by simp [HY.out], ?_, (HO.out.stored j _).1, HB2.out.setCell (p := ⟨g, j, none⟩) (by have := HG.out; have := HSZ.out; show w.heap.size ≤ g; omega) _⟩
          intro v hv
          rcases List.mem_or_eq_of_mem_set hv with h | rfl
          · exact HBY.out v h
          · exact ⟨_, rfl⟩
        case measure => simp [intOf]; omega
      · have : j = n := by omega
        subst this
        clear hby hy ho hbw
        go_wp2
        go_ret
        exact ⟨rfl, HB2.out⟩
  go_wp2_with (go_at_call 17; refine hk8.mono ?_; rintro e w' ⟨rfl, rfl⟩)
  go_loopw [7, 83] (fun _ i wr => ∃ (j : Nat) (ys : List Value), j ≤ n ∧ i = .int .i64 j ∧ ys.length = n ∧ (∀ v ∈ ys, ∃ x : Int, v = .int .u8 x) ∧ wr.ownsRow W0.heap.size 5 1 (.slice d n cd) n ys ∧ Below w.heap.size w wr) (fun _ i _ => n - (intOf i).toNat)
  case atStart => exact ⟨0, l.map byteV, Nat.zero_le _, rfl, by simp [HNL.out], fun v hv => by simp only [List.mem_map] at hv; obtain ⟨u, _, rfl⟩ := hv; exact ⟨_, rfl⟩, HOV.out, HBW.out⟩
  case round =>
    obtain ⟨j, ys, hj, rfl, hy, hby, ho, hbw⟩ := hrel
    have HL2 : n ≤ 140737488355328 := HL.out
    have HB2 := hideP hbw
    have HY := hideP hy
    have HBY := hideP hby
    have HO := hideP ho
    by_cases hlt : j < n
    · obtain ⟨g, rfl⟩ : ∃ g, d = some ⟨g, 0, none⟩ := by
        rcases ho.2 with ⟨h', _⟩ | ⟨g', cap, cur, h', _⟩
        · simp only [Value.slice.injEq] at h'; omega
        · simp only [Value.slice.injEq] at h'; exact ⟨g', h'.1⟩
      obtain ⟨x, hx⟩ := hby ys[j] (List.getElem_mem (by omega))
      have hc : wr.cell? ⟨g, j, none⟩ = some (.int .u8 x) := by
        rw [ho.cellAt j (by omega), List.getElem?_eq_getElem (by omega), hx]
      have hf : wr.frozen? ⟨g, j, none⟩ = false := ho.frozenAt j
      have hg : W0.heap.size ≤ g := (ho.lt g rfl).1
      have HG := hideP hg
      clear hx hby hy ho hbw hg
      go_wp2
      go_roundw
      case rel =>
        refine ⟨j + 1, ys.set j (.int .u8 (bits .xor .u8 x 85)), by omega, by go_num, by simp [HY.out], ?_, (HO.out.stored j _).1, HB2.out.setCell (p := ⟨g, j, none⟩) (by have := HG.out; have := HSZ.out; show w.heap.size ≤ g; omega) _⟩
        intro v hv
        rcases List.mem_or_eq_of_mem_set hv with h | rfl
        · exact HBY.out v h
        · exact ⟨_, rfl⟩
      case measure => simp [intOf]; omega
    · have : j = n := by omega
      subst this
      clear hby hy ho hbw
      go_wp2
      go_ret
      exact ⟨rfl, HB2.out⟩

end Go.Proofs.Ytcceaokldphfgaa
