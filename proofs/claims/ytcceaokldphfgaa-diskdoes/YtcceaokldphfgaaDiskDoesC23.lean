/- YtcceaokldphfgaaDiskDoesC23 -/
import Derived.Test.YtcceaokldphfgaaDiskDoesC22
namespace Go.Proofs.Ytcceaokldphfgaa
open Go.RowKit Go.Shelf

theorem PlanArg.own {w w' : World} {role : Role} {D B : Nat} {s : DSt} {v : Value} {l : List Int} (h : DiskOK w role D s) (hB : w.heap.size ≤ B) (ho : w'.ownsRow B 3 1 v (l.map (Value.int .i64)).length (l.map (Value.int .i64))) (hl : l.length * 8 ≤ 140737488351232) (he : ∀ x ∈ l, I64 x) : PlanArg w' role v l := by
  rw [List.length_map] at ho
  refine ⟨RdI.of_own ho, fun a n c e => ?_, hl, he⟩
  rcases ho.2 with ⟨e0, _⟩ | ⟨g, cap, cur, e0, hb, hg, _⟩
  · rw [e0] at e; simp at e
  · rw [e0] at e
    simp only [Value.slice.injEq, Option.some.injEq] at e
    rw [← e.1]
    exact ⟨(Array.getElem?_eq_some_iff.1 hg).1, no_role h (Nat.le_trans hB hb)⟩

set_option maxHeartbeats 4000000 in
set_option maxRecDepth 100000 in
theorem do_D {w : World} {role : Role} {D : Nat} {s : DSt} (h : DiskOK w role D s) (ho : s.ops < 1099511627776) (hz : s.dead = true → ∀ a ∈ (abs s).fs, a.chs = []) (a a1 a2 a3 : Option Addr) (c c1 c2 c3 : Nat) (o : AOp) (hop : OpAt w a a1 a2 a3 c c1 c2 c3 o) :
    Calls Try.prog 14 #[.pointer (some ⟨D, 0, none⟩), opV a a1 a2 a3 c c1 c2 c3 o] w (Done w role D (doA (abs s) o)) := by
  obtain ⟨X, hX⟩ : ∃ X, X = doA (abs s) o := ⟨_, rfl⟩
  rw [← hX]
  have hsm := do_small (abs s) o
  rw [← hX] at hsm
  obtain ⟨hsm1, hsm2⟩ := hsm
  unfold opV
  have hl := hop.len
  generalize hn : o.data.length = n at *
  generalize hn1 : o.keep.length = n1
  generalize hn2 : o.fail.length = n2
  generalize hn3 : o.full.length = n3
  generalize hk : o.kind = k
  generalize hnm : o.name = nm
  generalize hto : o.to = to
  generalize hat : o.at_ = at_
  generalize hlo : o.long = long
  generalize hcr : o.crash = cr
  generalize hro : o.room = ro
  obtain ⟨W0, hW0⟩ : ∃ W0, W0 = w.alloc (.cells #[.int .i64 k, .string nm, .string to, .int .i64 at_, .int .i64 long, .slice a n c, .int .i64 cr, .slice a1 n1 c1, .slice a2 n2 c2, .slice a3 n3 c3, .int .i64 ro] 35) := ⟨_, rfl⟩
  have hb0 : Below w.heap.size w W0 := by rw [hW0]; exact (Below.refl _ w).alloc (Nat.le_refl _) _
  have hsz0 : w.heap.size < W0.heap.size := by rw [hW0]; simp
  have hB0 : W0.heap[w.heap.size]? = some (.cells #[.int .i64 k, .string nm, .string to, .int .i64 at_, .int .i64 long, .slice a n c, .int .i64 cr, .slice a1 n1 c1, .slice a2 n2 c2, .slice a3 n3 c3, .int .i64 ro] 35 (0, 0)) := by
    rw [hW0]; exact World.alloc_heap_new w _
  have ht := twin_any a c o.data W0 hop.nil (fun b e j u hu => (hb0.cell (p := b.add j) (by rw [add_block]; exact hop.lt b e (by intro h0; rw [h0] at hu; simp at hu))).trans (hop.cell b e j u hu)) (by omega)
  rw [hn] at ht
  have HW0 := hideP hW0
  have HB0 := hideP hB0
  clear hB0 hW0
  have HH := hideP h
  have HHO := hideP ho
  have HHZ := hideP hz
  have HOP := hideP hop
  have HNL := hideP hn
  have HSZ := hideP hsz0
  have HL : Hid (n ≤ 140737488351232) := hl
  have HXE := hideP hX
  have HKK : Hid (o.kind = k ∧ o.name = nm ∧ o.to = to ∧ o.at_ = at_ ∧ o.long = long ∧ o.crash = cr ∧ o.room = ro ∧ o.keep.length = n1 ∧ o.fail.length = n2 ∧ o.full.length = n3) := ⟨hk, hnm, hto, hat, hlo, hcr, hro, hn1, hn2, hn3⟩
  have HB00 := hideP hb0
  clear h ho hz hop hn hsz0 hl hX hk hnm hto hat hlo hcr hro hn1 hn2 hn3 hb0
  go_enter Try.func14, Try.ntmps14
  go_wp2_with (fail)
  rw [← HW0.out]
  refine ht.mono ?_
  rintro e W1 ⟨v, rfl, hov, hb1⟩
  obtain ⟨d, cd, rfl⟩ := own_shape hov
  have HOV := hideP hov
  have HB1 := hideP (show W1.heap[w.heap.size]? = _ from (hb1.block w.heap.size HSZ.out).trans HB0.out)
  have HBW := hideP (HB00.out.trans (hb1.mono (Nat.le_of_lt HSZ.out)))
  have q0 : W1.cell? ⟨w.heap.size, 0, none⟩ = some (.int .i64 k) := blk_cell (o := 0) HB1.out rfl
  have q1 : W1.cell? ⟨w.heap.size, 1, none⟩ = some (.string nm) := blk_cell (o := 1) HB1.out rfl
  have q2 : W1.cell? ⟨w.heap.size, 2, none⟩ = some (.string to) := blk_cell (o := 2) HB1.out rfl
  have q3 : W1.cell? ⟨w.heap.size, 3, none⟩ = some (.int .i64 at_) := blk_cell (o := 3) HB1.out rfl
  have q4 : W1.cell? ⟨w.heap.size, 4, none⟩ = some (.int .i64 long) := blk_cell (o := 4) HB1.out rfl
  have q6 : W1.cell? ⟨w.heap.size, 6, none⟩ = some (.int .i64 cr) := blk_cell (o := 6) HB1.out rfl
  have q7 : W1.cell? ⟨w.heap.size, 7, none⟩ = some (.slice a1 n1 c1) := blk_cell (o := 7) HB1.out rfl
  have q8 : W1.cell? ⟨w.heap.size, 8, none⟩ = some (.slice a2 n2 c2) := blk_cell (o := 8) HB1.out rfl
  have q9 : W1.cell? ⟨w.heap.size, 9, none⟩ = some (.slice a3 n3 c3) := blk_cell (o := 9) HB1.out rfl
  have q10 : W1.cell? ⟨w.heap.size, 10, none⟩ = some (.int .i64 ro) := blk_cell (o := 10) HB1.out rfl
  clear hov hb1 ht
  have HDN : Hid (∀ r w', Done W1 role D X r w' → r = .returned (.int .i64 X.2) ∧ Hid (LoopI w w' role D W0.heap.size X.1 (.slice d n cd) n (o.data.map byteV))) := fun r w' hd => LoopI.of HH.out HBW.out (Nat.le_of_lt HSZ.out) HOV.out hd
  by_cases e0 : k = 0
  · subst e0
    have HC : Hid (Calls Try.prog 29 #[.pointer (some ⟨D, 0, none⟩), .string nm] W1 fun r w' => r = .returned (.int .i64 X.2) ∧ Hid (LoopI w w' role D W0.heap.size X.1 (.slice d n cd) n (o.data.map byteV))) := by
      have hd1 := HH.out.still HBW.out
      have ho := HHO.out
      have hop := HOP.out
      obtain ⟨k1, k2, k3, k4, k5, k6, k7, _⟩ := HKK.out
      have hlen := HNL.out
      have HRD : Rd W1 (.slice d n cd) o.data := by
        have h9 := own_base HOV.out
        rw [← hlen] at h9 ⊢
        exact Rd.of_own h9
      have HBS : Beside role (.slice d n cd) := fun a n' c' e => by
        simp only [Value.slice.injEq] at e
        rcases HOV.out.2 with ⟨e0, _⟩ | ⟨g, cap, cur, e0, hb, _⟩
        · simp only [Value.slice.injEq] at e0; rw [e.1] at e0; simp at e0
        · simp only [Value.slice.injEq] at e0
          rw [e.1] at e0
          have e1 := e0.1
          simp only [Option.some.injEq] at e1
          rw [e1]
          exact no_role HH.out (Nat.le_trans (Nat.le_of_lt HSZ.out) hb)
      have hx : X = createA (abs s) nm := by
        rw [HXE.out]
        unfold doA
        simp only [k1, k2, k3, k4, k5]
        simp
      refine (create_D hd1 ho nm).mono fun r w' hr => HDN.out r w' (by rw [hx]; exact hr)
    go_wp2_with (go_at_call 29; refine HC.out.mono ?_; rintro e w' ⟨rfl, HL1⟩)
    go_loopw [7, 83] (fun _ i wr => ∃ (j : Nat) (ys : List Value), j ≤ n ∧ i = .int .i64 j ∧ ys.length = n ∧ (∀ v ∈ ys, ∃ x : Int, v = .int .u8 x) ∧ Hid (LoopI w wr role D W0.heap.size X.1 (.slice d n cd) n ys)) (fun _ i _ => n - (intOf i).toNat)
    case atStart => exact ⟨0, o.data.map byteV, Nat.zero_le _, rfl, by simp [HNL.out], fun v hv => by simp only [List.mem_map] at hv; obtain ⟨u, _, rfl⟩ := hv; exact ⟨_, rfl⟩, HL1⟩
    case round =>
      obtain ⟨j, ys, hj, rfl, hy, hby, hli⟩ := hrel
      have HL2 : n ≤ 140737488351232 := HL.out
      have HY := hideP hy
      have HBY := hideP hby
      by_cases hlt : j < n
      · have ho := hli.out.own
        obtain ⟨g, rfl⟩ : ∃ g, d = some ⟨g, 0, none⟩ := by
          rcases ho.2 with ⟨h', _⟩ | ⟨g', cap, cur, h', _⟩
          · simp only [Value.slice.injEq] at h'; omega
          · simp only [Value.slice.injEq] at h'; exact ⟨g', h'.1⟩
        obtain ⟨x, hx⟩ := hby ys[j] (List.getElem_mem (by omega))
        have hc : wr.cell? ⟨g, j, none⟩ = some (.int .u8 x) := by
          rw [ho.cellAt j (by omega), List.getElem?_eq_getElem (by omega), hx]
        have hf : wr.frozen? ⟨g, j, none⟩ = false := ho.frozenAt j
        clear hx hby hy ho
        go_wp2
        go_roundw
        case rel =>
          refine ⟨j + 1, ys.set j (.int .u8 (bits .xor .u8 x 85)), by omega, by go_num, by simp [HY.out], ?_, hli.out.store (Nat.le_of_lt HSZ.out) _⟩
          intro v hv
          rcases List.mem_or_eq_of_mem_set hv with h | rfl
          · exact HBY.out v h
          · exact ⟨_, rfl⟩
        case measure => simp [intOf]; omega
      · have : j = n := by omega
        subst this
        clear hby hy
        obtain ⟨role', s', z1, z2, z3, _⟩ := hli.out.ex
        have HF : Hid (∃ role' s', DiskOK wr role' D s' ∧ Stp role role' w wr ∧ abs s' = X.1) := ⟨role', s', z1, z2, z3⟩
        clear z1 z2 z3 hli
        go_wp2
        go_ret
        exact ⟨rfl, HF⟩
  by_cases e1 : k = 1
  · subst e1
    have HC : Hid (Calls Try.prog 30 #[.pointer (some ⟨D, 0, none⟩), .string nm, .slice d n cd] W1 fun r w' => r = .returned (.int .i64 X.2) ∧ Hid (LoopI w w' role D W0.heap.size X.1 (.slice d n cd) n (o.data.map byteV))) := by
      have hd1 := HH.out.still HBW.out
      have ho := HHO.out
      have hop := HOP.out
      obtain ⟨k1, k2, k3, k4, k5, k6, k7, _⟩ := HKK.out
      have hlen := HNL.out
      have HRD : Rd W1 (.slice d n cd) o.data := by
        have h9 := own_base HOV.out
        rw [← hlen] at h9 ⊢
        exact Rd.of_own h9
      have HBS : Beside role (.slice d n cd) := fun a n' c' e => by
        simp only [Value.slice.injEq] at e
        rcases HOV.out.2 with ⟨e0, _⟩ | ⟨g, cap, cur, e0, hb, _⟩
        · simp only [Value.slice.injEq] at e0; rw [e.1] at e0; simp at e0
        · simp only [Value.slice.injEq] at e0
          rw [e.1] at e0
          have e1 := e0.1
          simp only [Option.some.injEq] at e1
          rw [e1]
          exact no_role HH.out (Nat.le_trans (Nat.le_of_lt HSZ.out) hb)
      have hx : X = appendA (abs s) nm o.data := by
        rw [HXE.out]
        unfold doA
        simp only [k1, k2, k3, k4, k5]
        simp
      refine (append_D hd1 ho nm (.slice d n cd) o.data HRD HBS (by have := HL.out; have := HNL.out; omega)).mono fun r w' hr => HDN.out r w' (by rw [hx]; exact hr)
    go_wp2_with (go_at_call 30; refine HC.out.mono ?_; rintro e w' ⟨rfl, HL1⟩)
    go_loopw [7, 83] (fun _ i wr => ∃ (j : Nat) (ys : List Value), j ≤ n ∧ i = .int .i64 j ∧ ys.length = n ∧ (∀ v ∈ ys, ∃ x : Int, v = .int .u8 x) ∧ Hid (LoopI w wr role D W0.heap.size X.1 (.slice d n cd) n ys)) (fun _ i _ => n - (intOf i).toNat)
    case atStart => exact ⟨0, o.data.map byteV, Nat.zero_le _, rfl, by simp [HNL.out], fun v hv => by simp only [List.mem_map] at hv; obtain ⟨u, _, rfl⟩ := hv; exact ⟨_, rfl⟩, HL1⟩
    case round =>
      obtain ⟨j, ys, hj, rfl, hy, hby, hli⟩ := hrel
      have HL2 : n ≤ 140737488351232 := HL.out
      have HY := hideP hy
      have HBY := hideP hby
      by_cases hlt : j < n
      · have ho := hli.out.own
        obtain ⟨g, rfl⟩ : ∃ g, d = some ⟨g, 0, none⟩ := by
          rcases ho.2 with ⟨h', _⟩ | ⟨g', cap, cur, h', _⟩
          · simp only [Value.slice.injEq] at h'; omega
          · simp only [Value.slice.injEq] at h'; exact ⟨g', h'.1⟩
        obtain ⟨x, hx⟩ := hby ys[j] (List.getElem_mem (by omega))
        have hc : wr.cell? ⟨g, j, none⟩ = some (.int .u8 x) := by
          rw [ho.cellAt j (by omega), List.getElem?_eq_getElem (by omega), hx]
        have hf : wr.frozen? ⟨g, j, none⟩ = false := ho.frozenAt j
        clear hx hby hy ho
        go_wp2
        go_roundw
        case rel =>
          refine ⟨j + 1, ys.set j (.int .u8 (bits .xor .u8 x 85)), by omega, by go_num, by simp [HY.out], ?_, hli.out.store (Nat.le_of_lt HSZ.out) _⟩
          intro v hv
          rcases List.mem_or_eq_of_mem_set hv with h | rfl
          · exact HBY.out v h
          · exact ⟨_, rfl⟩
        case measure => simp [intOf]; omega
      · have : j = n := by omega
        subst this
        clear hby hy
        obtain ⟨role', s', z1, z2, z3, _⟩ := hli.out.ex
        have HF : Hid (∃ role' s', DiskOK wr role' D s' ∧ Stp role role' w wr ∧ abs s' = X.1) := ⟨role', s', z1, z2, z3⟩
        clear z1 z2 z3 hli
        go_wp2
        go_ret
        exact ⟨rfl, HF⟩
  by_cases e2 : k = 2
  · subst e2
    have HC : Hid (Calls Try.prog 33 #[.pointer (some ⟨D, 0, none⟩), .string nm, .int .i64 at_, .slice d n cd] W1 fun r w' => r = .returned (.int .i64 X.2) ∧ Hid (LoopI w w' role D W0.heap.size X.1 (.slice d n cd) n (o.data.map byteV))) := by
      have hd1 := HH.out.still HBW.out
      have ho := HHO.out
      have hop := HOP.out
      obtain ⟨k1, k2, k3, k4, k5, k6, k7, _⟩ := HKK.out
      have hlen := HNL.out
      have HRD : Rd W1 (.slice d n cd) o.data := by
        have h9 := own_base HOV.out
        rw [← hlen] at h9 ⊢
        exact Rd.of_own h9
      have HBS : Beside role (.slice d n cd) := fun a n' c' e => by
        simp only [Value.slice.injEq] at e
        rcases HOV.out.2 with ⟨e0, _⟩ | ⟨g, cap, cur, e0, hb, _⟩
        · simp only [Value.slice.injEq] at e0; rw [e.1] at e0; simp at e0
        · simp only [Value.slice.injEq] at e0
          rw [e.1] at e0
          have e1 := e0.1
          simp only [Option.some.injEq] at e1
          rw [e1]
          exact no_role HH.out (Nat.le_trans (Nat.le_of_lt HSZ.out) hb)
      have hx : X = writeA (abs s) nm at_ o.data := by
        rw [HXE.out]
        unfold doA
        simp only [k1, k2, k3, k4, k5]
        simp
      refine (writeAt_D hd1 ho nm at_ (by rw [← k4]; exact hop.iAt) (.slice d n cd) o.data HRD HBS (by have := HL.out; have := HNL.out; omega)).mono fun r w' hr => HDN.out r w' (by rw [hx]; exact hr)
    go_wp2_with (go_at_call 33; refine HC.out.mono ?_; rintro e w' ⟨rfl, HL1⟩)
    go_loopw [7, 83] (fun _ i wr => ∃ (j : Nat) (ys : List Value), j ≤ n ∧ i = .int .i64 j ∧ ys.length = n ∧ (∀ v ∈ ys, ∃ x : Int, v = .int .u8 x) ∧ Hid (LoopI w wr role D W0.heap.size X.1 (.slice d n cd) n ys)) (fun _ i _ => n - (intOf i).toNat)
    case atStart => exact ⟨0, o.data.map byteV, Nat.zero_le _, rfl, by simp [HNL.out], fun v hv => by simp only [List.mem_map] at hv; obtain ⟨u, _, rfl⟩ := hv; exact ⟨_, rfl⟩, HL1⟩
    case round =>
      obtain ⟨j, ys, hj, rfl, hy, hby, hli⟩ := hrel
      have HL2 : n ≤ 140737488351232 := HL.out
      have HY := hideP hy
      have HBY := hideP hby
      by_cases hlt : j < n
      · have ho := hli.out.own
        obtain ⟨g, rfl⟩ : ∃ g, d = some ⟨g, 0, none⟩ := by
          rcases ho.2 with ⟨h', _⟩ | ⟨g', cap, cur, h', _⟩
          · simp only [Value.slice.injEq] at h'; omega
          · simp only [Value.slice.injEq] at h'; exact ⟨g', h'.1⟩
        obtain ⟨x, hx⟩ := hby ys[j] (List.getElem_mem (by omega))
        have hc : wr.cell? ⟨g, j, none⟩ = some (.int .u8 x) := by
          rw [ho.cellAt j (by omega), List.getElem?_eq_getElem (by omega), hx]
        have hf : wr.frozen? ⟨g, j, none⟩ = false := ho.frozenAt j
        clear hx hby hy ho
        go_wp2
        go_roundw
        case rel =>
          refine ⟨j + 1, ys.set j (.int .u8 (bits .xor .u8 x 85)), by omega, by go_num, by simp [HY.out], ?_, hli.out.store (Nat.le_of_lt HSZ.out) _⟩
          intro v hv
          rcases List.mem_or_eq_of_mem_set hv with h | rfl
          · exact HBY.out v h
          · exact ⟨_, rfl⟩
        case measure => simp [intOf]; omega
      · have : j = n := by omega
        subst this
        clear hby hy
        obtain ⟨role', s', z1, z2, z3, _⟩ := hli.out.ex
        have HF : Hid (∃ role' s', DiskOK wr role' D s' ∧ Stp role role' w wr ∧ abs s' = X.1) := ⟨role', s', z1, z2, z3⟩
        clear z1 z2 z3 hli
        go_wp2
        go_ret
        exact ⟨rfl, HF⟩
  by_cases e3 : k = 3
  · subst e3
    have HC : Hid (Calls Try.prog 34 #[.pointer (some ⟨D, 0, none⟩), .string nm, .int .i64 long] W1 fun r w' => r = .returned (.int .i64 X.2) ∧ Hid (LoopI w w' role D W0.heap.size X.1 (.slice d n cd) n (o.data.map byteV))) := by
      have hd1 := HH.out.still HBW.out
      have ho := HHO.out
      have hop := HOP.out
      obtain ⟨k1, k2, k3, k4, k5, k6, k7, _⟩ := HKK.out
      have hlen := HNL.out
      have HRD : Rd W1 (.slice d n cd) o.data := by
        have h9 := own_base HOV.out
        rw [← hlen] at h9 ⊢
        exact Rd.of_own h9
      have HBS : Beside role (.slice d n cd) := fun a n' c' e => by
        simp only [Value.slice.injEq] at e
        rcases HOV.out.2 with ⟨e0, _⟩ | ⟨g, cap, cur, e0, hb, _⟩
        · simp only [Value.slice.injEq] at e0; rw [e.1] at e0; simp at e0
        · simp only [Value.slice.injEq] at e0
          rw [e.1] at e0
          have e1 := e0.1
          simp only [Option.some.injEq] at e1
          rw [e1]
          exact no_role HH.out (Nat.le_trans (Nat.le_of_lt HSZ.out) hb)
      have hx : X = cutA (abs s) nm long := by
        rw [HXE.out]
        unfold doA
        simp only [k1, k2, k3, k4, k5]
        simp
      refine (truncate_D hd1 ho nm long).mono fun r w' hr => HDN.out r w' (by rw [hx]; exact hr)
    go_wp2_with (go_at_call 34; refine HC.out.mono ?_; rintro e w' ⟨rfl, HL1⟩)
    go_loopw [7, 83] (fun _ i wr => ∃ (j : Nat) (ys : List Value), j ≤ n ∧ i = .int .i64 j ∧ ys.length = n ∧ (∀ v ∈ ys, ∃ x : Int, v = .int .u8 x) ∧ Hid (LoopI w wr role D W0.heap.size X.1 (.slice d n cd) n ys)) (fun _ i _ => n - (intOf i).toNat)
    case atStart => exact ⟨0, o.data.map byteV, Nat.zero_le _, rfl, by simp [HNL.out], fun v hv => by simp only [List.mem_map] at hv; obtain ⟨u, _, rfl⟩ := hv; exact ⟨_, rfl⟩, HL1⟩
    case round =>
      obtain ⟨j, ys, hj, rfl, hy, hby, hli⟩ := hrel
      have HL2 : n ≤ 140737488351232 := HL.out
      have HY := hideP hy
      have HBY := hideP hby
      by_cases hlt : j < n
      · have ho := hli.out.own
        obtain ⟨g, rfl⟩ : ∃ g, d = some ⟨g, 0, none⟩ := by
          rcases ho.2 with ⟨h', _⟩ | ⟨g', cap, cur, h', _⟩
          · simp only [Value.slice.injEq] at h'; omega
          · simp only [Value.slice.injEq] at h'; exact ⟨g', h'.1⟩
        obtain ⟨x, hx⟩ := hby ys[j] (List.getElem_mem (by omega))
        have hc : wr.cell? ⟨g, j, none⟩ = some (.int .u8 x) := by
          rw [ho.cellAt j (by omega), List.getElem?_eq_getElem (by omega), hx]
        have hf : wr.frozen? ⟨g, j, none⟩ = false := ho.frozenAt j
        clear hx hby hy ho
        go_wp2
        go_roundw
        case rel =>
          refine ⟨j + 1, ys.set j (.int .u8 (bits .xor .u8 x 85)), by omega, by go_num, by simp [HY.out], ?_, hli.out.store (Nat.le_of_lt HSZ.out) _⟩
          intro v hv
          rcases List.mem_or_eq_of_mem_set hv with h | rfl
          · exact HBY.out v h
          · exact ⟨_, rfl⟩
        case measure => simp [intOf]; omega
      · have : j = n := by omega
        subst this
        clear hby hy
        obtain ⟨role', s', z1, z2, z3, _⟩ := hli.out.ex
        have HF : Hid (∃ role' s', DiskOK wr role' D s' ∧ Stp role role' w wr ∧ abs s' = X.1) := ⟨role', s', z1, z2, z3⟩
        clear z1 z2 z3 hli
        go_wp2
        go_ret
        exact ⟨rfl, HF⟩
  by_cases e4 : k = 4
  · subst e4
    have HC : Hid (Calls Try.prog 26 #[.pointer (some ⟨D, 0, none⟩), .string nm] W1 fun r w' => r = .returned (.int .i64 X.2) ∧ Hid (LoopI w w' role D W0.heap.size X.1 (.slice d n cd) n (o.data.map byteV))) := by
      have hd1 := HH.out.still HBW.out
      have ho := HHO.out
      have hop := HOP.out
      obtain ⟨k1, k2, k3, k4, k5, k6, k7, _⟩ := HKK.out
      have hlen := HNL.out
      have HRD : Rd W1 (.slice d n cd) o.data := by
        have h9 := own_base HOV.out
        rw [← hlen] at h9 ⊢
        exact Rd.of_own h9
      have HBS : Beside role (.slice d n cd) := fun a n' c' e => by
        simp only [Value.slice.injEq] at e
        rcases HOV.out.2 with ⟨e0, _⟩ | ⟨g, cap, cur, e0, hb, _⟩
        · simp only [Value.slice.injEq] at e0; rw [e.1] at e0; simp at e0
        · simp only [Value.slice.injEq] at e0
          rw [e.1] at e0
          have e1 := e0.1
          simp only [Option.some.injEq] at e1
          rw [e1]
          exact no_role HH.out (Nat.le_trans (Nat.le_of_lt HSZ.out) hb)
      have hx : X = syncA (abs s) nm := by
        rw [HXE.out]
        unfold doA
        simp only [k1, k2, k3, k4, k5]
        simp
      refine (sync_D hd1 ho nm).mono fun r w' hr => HDN.out r w' (by rw [hx]; exact hr)
    go_wp2_with (go_at_call 26; refine HC.out.mono ?_; rintro e w' ⟨rfl, HL1⟩)
    go_loopw [7, 83] (fun _ i wr => ∃ (j : Nat) (ys : List Value), j ≤ n ∧ i = .int .i64 j ∧ ys.length = n ∧ (∀ v ∈ ys, ∃ x : Int, v = .int .u8 x) ∧ Hid (LoopI w wr role D W0.heap.size X.1 (.slice d n cd) n ys)) (fun _ i _ => n - (intOf i).toNat)
    case atStart => exact ⟨0, o.data.map byteV, Nat.zero_le _, rfl, by simp [HNL.out], fun v hv => by simp only [List.mem_map] at hv; obtain ⟨u, _, rfl⟩ := hv; exact ⟨_, rfl⟩, HL1⟩
    case round =>
      obtain ⟨j, ys, hj, rfl, hy, hby, hli⟩ := hrel
      have HL2 : n ≤ 140737488351232 := HL.out
      have HY := hideP hy
      have HBY := hideP hby
      by_cases hlt : j < n
      · have ho := hli.out.own
        obtain ⟨g, rfl⟩ : ∃ g, d = some ⟨g, 0, none⟩ := by
          rcases ho.2 with ⟨h', _⟩ | ⟨g', cap, cur, h', _⟩
          · simp only [Value.slice.injEq] at h'; omega
          · simp only [Value.slice.injEq] at h'; exact ⟨g', h'.1⟩
        obtain ⟨x, hx⟩ := hby ys[j] (List.getElem_mem (by omega))
        have hc : wr.cell? ⟨g, j, none⟩ = some (.int .u8 x) := by
          rw [ho.cellAt j (by omega), List.getElem?_eq_getElem (by omega), hx]
        have hf : wr.frozen? ⟨g, j, none⟩ = false := ho.frozenAt j
        clear hx hby hy ho
        go_wp2
        go_roundw
        case rel =>
          refine ⟨j + 1, ys.set j (.int .u8 (bits .xor .u8 x 85)), by omega, by go_num, by simp [HY.out], ?_, hli.out.store (Nat.le_of_lt HSZ.out) _⟩
          intro v hv
          rcases List.mem_or_eq_of_mem_set hv with h | rfl
          · exact HBY.out v h
          · exact ⟨_, rfl⟩
        case measure => simp [intOf]; omega
      · have : j = n := by omega
        subst this
        clear hby hy
        obtain ⟨role', s', z1, z2, z3, _⟩ := hli.out.ex
        have HF : Hid (∃ role' s', DiskOK wr role' D s' ∧ Stp role role' w wr ∧ abs s' = X.1) := ⟨role', s', z1, z2, z3⟩
        clear z1 z2 z3 hli
        go_wp2
        go_ret
        exact ⟨rfl, HF⟩
  by_cases e5 : k = 5
  · subst e5
    have HC : Hid (Calls Try.prog 35 #[.pointer (some ⟨D, 0, none⟩), .string nm, .string to] W1 fun r w' => r = .returned (.int .i64 X.2) ∧ Hid (LoopI w w' role D W0.heap.size X.1 (.slice d n cd) n (o.data.map byteV))) := by
      have hd1 := HH.out.still HBW.out
      have ho := HHO.out
      have hop := HOP.out
      obtain ⟨k1, k2, k3, k4, k5, k6, k7, _⟩ := HKK.out
      have hlen := HNL.out
      have HRD : Rd W1 (.slice d n cd) o.data := by
        have h9 := own_base HOV.out
        rw [← hlen] at h9 ⊢
        exact Rd.of_own h9
      have HBS : Beside role (.slice d n cd) := fun a n' c' e => by
        simp only [Value.slice.injEq] at e
        rcases HOV.out.2 with ⟨e0, _⟩ | ⟨g, cap, cur, e0, hb, _⟩
        · simp only [Value.slice.injEq] at e0; rw [e.1] at e0; simp at e0
        · simp only [Value.slice.injEq] at e0
          rw [e.1] at e0
          have e1 := e0.1
          simp only [Option.some.injEq] at e1
          rw [e1]
          exact no_role HH.out (Nat.le_trans (Nat.le_of_lt HSZ.out) hb)
      have hx : X = renameA (abs s) nm to := by
        rw [HXE.out]
        unfold doA
        simp only [k1, k2, k3, k4, k5]
        simp
      refine (rename_D hd1 ho nm to).mono fun r w' hr => HDN.out r w' (by rw [hx]; exact hr)
    go_wp2_with (go_at_call 35; refine HC.out.mono ?_; rintro e w' ⟨rfl, HL1⟩)
    go_loopw [7, 83] (fun _ i wr => ∃ (j : Nat) (ys : List Value), j ≤ n ∧ i = .int .i64 j ∧ ys.length = n ∧ (∀ v ∈ ys, ∃ x : Int, v = .int .u8 x) ∧ Hid (LoopI w wr role D W0.heap.size X.1 (.slice d n cd) n ys)) (fun _ i _ => n - (intOf i).toNat)
    case atStart => exact ⟨0, o.data.map byteV, Nat.zero_le _, rfl, by simp [HNL.out], fun v hv => by simp only [List.mem_map] at hv; obtain ⟨u, _, rfl⟩ := hv; exact ⟨_, rfl⟩, HL1⟩
    case round =>
      obtain ⟨j, ys, hj, rfl, hy, hby, hli⟩ := hrel
      have HL2 : n ≤ 140737488351232 := HL.out
      have HY := hideP hy
      have HBY := hideP hby
      by_cases hlt : j < n
      · have ho := hli.out.own
        obtain ⟨g, rfl⟩ : ∃ g, d = some ⟨g, 0, none⟩ := by
          rcases ho.2 with ⟨h', _⟩ | ⟨g', cap, cur, h', _⟩
          · simp only [Value.slice.injEq] at h'; omega
          · simp only [Value.slice.injEq] at h'; exact ⟨g', h'.1⟩
        obtain ⟨x, hx⟩ := hby ys[j] (List.getElem_mem (by omega))
        have hc : wr.cell? ⟨g, j, none⟩ = some (.int .u8 x) := by
          rw [ho.cellAt j (by omega), List.getElem?_eq_getElem (by omega), hx]
        have hf : wr.frozen? ⟨g, j, none⟩ = false := ho.frozenAt j
        clear hx hby hy ho
        go_wp2
        go_roundw
        case rel =>
          refine ⟨j + 1, ys.set j (.int .u8 (bits .xor .u8 x 85)), by omega, by go_num, by simp [HY.out], ?_, hli.out.store (Nat.le_of_lt HSZ.out) _⟩
          intro v hv
          rcases List.mem_or_eq_of_mem_set hv with h | rfl
          · exact HBY.out v h
          · exact ⟨_, rfl⟩
        case measure => simp [intOf]; omega
      · have : j = n := by omega
        subst this
        clear hby hy
        obtain ⟨role', s', z1, z2, z3, _⟩ := hli.out.ex
        have HF : Hid (∃ role' s', DiskOK wr role' D s' ∧ Stp role role' w wr ∧ abs s' = X.1) := ⟨role', s', z1, z2, z3⟩
        clear z1 z2 z3 hli
        go_wp2
        go_ret
        exact ⟨rfl, HF⟩
  by_cases e6 : k = 6
  · subst e6
    have HC : Hid (Calls Try.prog 36 #[.pointer (some ⟨D, 0, none⟩), .string nm] W1 fun r w' => r = .returned (.int .i64 X.2) ∧ Hid (LoopI w w' role D W0.heap.size X.1 (.slice d n cd) n (o.data.map byteV))) := by
      have hd1 := HH.out.still HBW.out
      have ho := HHO.out
      have hop := HOP.out
      obtain ⟨k1, k2, k3, k4, k5, k6, k7, _⟩ := HKK.out
      have hlen := HNL.out
      have HRD : Rd W1 (.slice d n cd) o.data := by
        have h9 := own_base HOV.out
        rw [← hlen] at h9 ⊢
        exact Rd.of_own h9
      have HBS : Beside role (.slice d n cd) := fun a n' c' e => by
        simp only [Value.slice.injEq] at e
        rcases HOV.out.2 with ⟨e0, _⟩ | ⟨g, cap, cur, e0, hb, _⟩
        · simp only [Value.slice.injEq] at e0; rw [e.1] at e0; simp at e0
        · simp only [Value.slice.injEq] at e0
          rw [e.1] at e0
          have e1 := e0.1
          simp only [Option.some.injEq] at e1
          rw [e1]
          exact no_role HH.out (Nat.le_trans (Nat.le_of_lt HSZ.out) hb)
      have hx : X = removeA (abs s) nm := by
        rw [HXE.out]
        unfold doA
        simp only [k1, k2, k3, k4, k5]
        simp
      refine (remove_D hd1 ho nm).mono fun r w' hr => HDN.out r w' (by rw [hx]; exact hr)
    go_wp2_with (go_at_call 36; refine HC.out.mono ?_; rintro e w' ⟨rfl, HL1⟩)
    go_loopw [7, 83] (fun _ i wr => ∃ (j : Nat) (ys : List Value), j ≤ n ∧ i = .int .i64 j ∧ ys.length = n ∧ (∀ v ∈ ys, ∃ x : Int, v = .int .u8 x) ∧ Hid (LoopI w wr role D W0.heap.size X.1 (.slice d n cd) n ys)) (fun _ i _ => n - (intOf i).toNat)
    case atStart => exact ⟨0, o.data.map byteV, Nat.zero_le _, rfl, by simp [HNL.out], fun v hv => by simp only [List.mem_map] at hv; obtain ⟨u, _, rfl⟩ := hv; exact ⟨_, rfl⟩, HL1⟩
    case round =>
      obtain ⟨j, ys, hj, rfl, hy, hby, hli⟩ := hrel
      have HL2 : n ≤ 140737488351232 := HL.out
      have HY := hideP hy
      have HBY := hideP hby
      by_cases hlt : j < n
      · have ho := hli.out.own
        obtain ⟨g, rfl⟩ : ∃ g, d = some ⟨g, 0, none⟩ := by
          rcases ho.2 with ⟨h', _⟩ | ⟨g', cap, cur, h', _⟩
          · simp only [Value.slice.injEq] at h'; omega
          · simp only [Value.slice.injEq] at h'; exact ⟨g', h'.1⟩
        obtain ⟨x, hx⟩ := hby ys[j] (List.getElem_mem (by omega))
        have hc : wr.cell? ⟨g, j, none⟩ = some (.int .u8 x) := by
          rw [ho.cellAt j (by omega), List.getElem?_eq_getElem (by omega), hx]
        have hf : wr.frozen? ⟨g, j, none⟩ = false := ho.frozenAt j
        clear hx hby hy ho
        go_wp2
        go_roundw
        case rel =>
          refine ⟨j + 1, ys.set j (.int .u8 (bits .xor .u8 x 85)), by omega, by go_num, by simp [HY.out], ?_, hli.out.store (Nat.le_of_lt HSZ.out) _⟩
          intro v hv
          rcases List.mem_or_eq_of_mem_set hv with h | rfl
          · exact HBY.out v h
          · exact ⟨_, rfl⟩
        case measure => simp [intOf]; omega
      · have : j = n := by omega
        subst this
        clear hby hy
        obtain ⟨role', s', z1, z2, z3, _⟩ := hli.out.ex
        have HF : Hid (∃ role' s', DiskOK wr role' D s' ∧ Stp role role' w wr ∧ abs s' = X.1) := ⟨role', s', z1, z2, z3⟩
        clear z1 z2 z3 hli
        go_wp2
        go_ret
        exact ⟨rfl, HF⟩
  by_cases e7 : k = 7
  · subst e7
    have HC : Hid (Calls Try.prog 11 #[.agg #[.int .i64 cr, .slice a1 n1 c1, .slice a2 n2 c2, .slice a3 n3 c3, .int .i64 ro]] W1 fun r w2 => ∃ v1 v2 v3, r = .returned (.agg #[.int .i64 cr, v1, v2, v3, .int .i64 ro]) ∧ Hid (Calls Try.prog 27 #[.pointer (some ⟨D, 0, none⟩), .agg #[.int .i64 cr, v1, v2, v3, .int .i64 ro]] w2 fun r w' => r = .returned (.int .i64 X.2) ∧ Hid (LoopI w w' role D W0.heap.size X.1 (.slice d n cd) n (o.data.map byteV)))) := by
      have hd1 := HH.out.still HBW.out
      have hop := HOP.out
      obtain ⟨k1, k2, k3, k4, k5, k6, k7, k8, k9, k10⟩ := HKK.out
      have hp := planTwin_new W1 cr ro a1 a2 a3 c1 c2 c3 _ _ _ (hop.keep.later HBW.out) (hop.fail.later HBW.out) (hop.full.later HBW.out)
      simp only [List.length_map, k8, k9, k10] at hp
      refine hp.mono ?_
      rintro r w2 ⟨v1, v2, v3, rfl, hb2, o1, o2, o3⟩
      refine ⟨v1, v2, v3, rfl, ?_⟩
      have hB : W1.heap.size ≤ W1.heap.size := Nat.le_refl _
      have hx : X = (startA (abs s) cr ro o.keep o.fail o.full, 0) := by
        rw [HXE.out]
        unfold doA
        simp only [k1, k6, k7]
        simp
      refine (start_D (hd1.still hb2) HHZ.out cr ro v1 v2 v3 o.keep o.fail o.full (PlanArg.own hd1 hB (by rw [List.length_map, k8]; exact o1) hop.lK hop.iK) (PlanArg.own hd1 hB (by rw [List.length_map, k9]; exact o2) hop.lF hop.iF) (PlanArg.own hd1 hB (by rw [List.length_map, k10]; exact o3) hop.lU hop.iU) (by rw [← k6]; exact hop.iC) (by rw [← k7]; exact hop.iR)).mono ?_
      rintro r w' ⟨rfl, role', s', z1, z2, z3⟩
      refine HDN.out _ w' ?_
      rw [hx]
      exact ⟨rfl, role', s', z1, (Stp.still hb2).trans z2, z3⟩
    go_wp2_with (first | (go_at_call 11; refine HC.out.mono ?_; rintro e W2 ⟨v1, v2, v3, rfl, HC2⟩) | (go_at_call 27; refine HC2.out.mono ?_; rintro e W3 ⟨rfl, HL1⟩))
    go_loopw [7, 83] (fun _ i wr => ∃ (j : Nat) (ys : List Value), j ≤ n ∧ i = .int .i64 j ∧ ys.length = n ∧ (∀ v ∈ ys, ∃ x : Int, v = .int .u8 x) ∧ Hid (LoopI w wr role D W0.heap.size X.1 (.slice d n cd) n ys)) (fun _ i _ => n - (intOf i).toNat)
    case atStart => exact ⟨0, o.data.map byteV, Nat.zero_le _, rfl, by simp [HNL.out], fun v hv => by simp only [List.mem_map] at hv; obtain ⟨u, _, rfl⟩ := hv; exact ⟨_, rfl⟩, HL1⟩
    case round =>
      obtain ⟨j, ys, hj, rfl, hy, hby, hli⟩ := hrel
      have HL2 : n ≤ 140737488351232 := HL.out
      have HY := hideP hy
      have HBY := hideP hby
      by_cases hlt : j < n
      · have ho := hli.out.own
        obtain ⟨g, rfl⟩ : ∃ g, d = some ⟨g, 0, none⟩ := by
          rcases ho.2 with ⟨h', _⟩ | ⟨g', cap, cur, h', _⟩
          · simp only [Value.slice.injEq] at h'; omega
          · simp only [Value.slice.injEq] at h'; exact ⟨g', h'.1⟩
        obtain ⟨x, hx⟩ := hby ys[j] (List.getElem_mem (by omega))
        have hc : wr.cell? ⟨g, j, none⟩ = some (.int .u8 x) := by
          rw [ho.cellAt j (by omega), List.getElem?_eq_getElem (by omega), hx]
        have hf : wr.frozen? ⟨g, j, none⟩ = false := ho.frozenAt j
        clear hx hby hy ho
        go_wp2
        go_roundw
        case rel =>
          refine ⟨j + 1, ys.set j (.int .u8 (bits .xor .u8 x 85)), by omega, by go_num, by simp [HY.out], ?_, hli.out.store (Nat.le_of_lt HSZ.out) _⟩
          intro v hv
          rcases List.mem_or_eq_of_mem_set hv with h | rfl
          · exact HBY.out v h
          · exact ⟨_, rfl⟩
        case measure => simp [intOf]; omega
      · have : j = n := by omega
        subst this
        clear hby hy
        obtain ⟨role', s', z1, z2, z3, _⟩ := hli.out.ex
        have HF : Hid (∃ role' s', DiskOK wr role' D s' ∧ Stp role role' w wr ∧ abs s' = X.1) := ⟨role', s', z1, z2, z3⟩
        clear z1 z2 z3 hli
        go_wp2
        go_ret
        exact ⟨rfl, HF⟩
  have HC : Hid (Calls Try.prog 17 #[.pointer (some ⟨D, 0, none⟩), .string nm, .int .i64 at_, .int .i64 long] W1 fun r w' => ∃ v, r = .returned (.tuple #[v, .int .i64 X.2]) ∧ Hid (LoopI w w' role D W0.heap.size X.1 (.slice d n cd) n (o.data.map byteV))) := by
    have hd1 := HH.out.still HBW.out
    have hop := HOP.out
    obtain ⟨k1, k2, k3, k4, k5, k6, k7, _⟩ := HKK.out
    have hx : X = (abs s, (readA (abs s) nm at_ long).2) := by
      rw [HXE.out]
      unfold doA
      simp only [k1, k2, k4, k5, e0, e1, e2, e3, e4, e5, e6, e7, if_false]
    refine (read_D hd1 nm at_ long (by rw [← k4]; exact hop.iAt) (by rw [← k5]; exact hop.iLong)).mono ?_
    rintro r w' ⟨v, rfl, hv⟩
    refine ⟨v, by rw [hx], ?_⟩
    refine (HDN.out (.returned (.int .i64 X.2)) w' ?_).2
    rw [hx]
    exact ⟨rfl, role, s, hd1.still hv.2, Stp.still hv.2, rfl⟩
  go_wp2_with (go_at_call 17; refine HC.out.mono ?_; rintro e w' ⟨v, rfl, HL1⟩)
  go_loopw [7, 83] (fun _ i wr => ∃ (j : Nat) (ys : List Value), j ≤ n ∧ i = .int .i64 j ∧ ys.length = n ∧ (∀ v ∈ ys, ∃ x : Int, v = .int .u8 x) ∧ Hid (LoopI w wr role D W0.heap.size X.1 (.slice d n cd) n ys)) (fun _ i _ => n - (intOf i).toNat)
  case atStart => exact ⟨0, o.data.map byteV, Nat.zero_le _, rfl, by simp [HNL.out], fun v hv => by simp only [List.mem_map] at hv; obtain ⟨u, _, rfl⟩ := hv; exact ⟨_, rfl⟩, HL1⟩
  case round =>
    obtain ⟨j, ys, hj, rfl, hy, hby, hli⟩ := hrel
    have HL2 : n ≤ 140737488351232 := HL.out
    have HY := hideP hy
    have HBY := hideP hby
    by_cases hlt : j < n
    · have ho := hli.out.own
      obtain ⟨g, rfl⟩ : ∃ g, d = some ⟨g, 0, none⟩ := by
        rcases ho.2 with ⟨h', _⟩ | ⟨g', cap, cur, h', _⟩
        · simp only [Value.slice.injEq] at h'; omega
        · simp only [Value.slice.injEq] at h'; exact ⟨g', h'.1⟩
      obtain ⟨x, hx⟩ := hby ys[j] (List.getElem_mem (by omega))
      have hc : wr.cell? ⟨g, j, none⟩ = some (.int .u8 x) := by
        rw [ho.cellAt j (by omega), List.getElem?_eq_getElem (by omega), hx]
      have hf : wr.frozen? ⟨g, j, none⟩ = false := ho.frozenAt j
      clear hx hby hy ho
      go_wp2
      go_roundw
      case rel =>
        refine ⟨j + 1, ys.set j (.int .u8 (bits .xor .u8 x 85)), by omega, by go_num, by simp [HY.out], ?_, hli.out.store (Nat.le_of_lt HSZ.out) _⟩
        intro v hv
        rcases List.mem_or_eq_of_mem_set hv with h | rfl
        · exact HBY.out v h
        · exact ⟨_, rfl⟩
      case measure => simp [intOf]; omega
    · have : j = n := by omega
      subst this
      clear hby hy
      obtain ⟨role', s', z1, z2, z3, _⟩ := hli.out.ex
      have HF : Hid (∃ role' s', DiskOK wr role' D s' ∧ Stp role role' w wr ∧ abs s' = X.1) := ⟨role', s', z1, z2, z3⟩
      clear z1 z2 z3 hli
      go_wp2
      go_ret
      exact ⟨rfl, HF⟩

end Go.Proofs.Ytcceaokldphfgaa
