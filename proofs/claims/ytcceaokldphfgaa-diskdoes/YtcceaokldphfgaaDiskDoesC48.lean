/- YtcceaokldphfgaaDiskDoesC48 -/
import Derived.Test.YtcceaokldphfgaaDiskDoesC47
import Derived.Test.YtcceaokldphfgaaDiskDoesC37
import Derived.Test.YtcceaokldphfgaaDiskDoesC25
namespace Go.Proofs.Ytcceaokldphfgaa
open Go.RowKit Go.Shelf

attribute [local go_sem] Oper.semAt_some

/-- Of a file that is told, its size and its bytes. -/
theorem told_at {a : ASt} (hs : SortedA a.fs) {j : Nat} {x : ByteArray × List UInt8} (hx : (toldA a)[j]? = some x) : sizeA a x.1 = (x.2.length, 0) ∧ readA a x.1 0 x.2.length = (x.2, 0) := by
  unfold toldA at hx
  cases hd : a.dead with
  | true => rw [if_pos hd] at hx; simp at hx
  | false =>
    rw [if_neg (by rw [hd]; decide)] at hx
    unfold dataL at hx
    rw [List.getElem?_map, Option.map_eq_some_iff] at hx
    obtain ⟨f, hf, rfl⟩ := hx
    have hfind : findA a.fs f.name = some f := by
      have h1 : a.fs = (a.fs.map fun f => (⟨f, .slice none 0 0, .slice none 0 0, []⟩ : DRep)).map (·.a) := by rw [List.map_map]; exact (List.map_id _).symm
      rw [h1]
      refine find_yes (i := j) (r := ⟨f, .slice none 0 0, .slice none 0 0, []⟩) (by rw [List.getElem?_map, hf]; rfl) rfl (fun i q hi hq => ?_)
      rw [List.getElem?_map, Option.map_eq_some_iff] at hq
      obtain ⟨g, hg, rfl⟩ := hq
      obtain ⟨hj', e1⟩ := List.getElem?_eq_some_iff.1 hf
      obtain ⟨hi', e2⟩ := List.getElem?_eq_some_iff.1 hg
      have := List.pairwise_iff_getElem.1 hs i j hi' hj' hi
      intro e
      rw [e2, e1] at this
      have e3 : g.name = f.name := e
      rw [e3, cmp_self] at this
      omega
    unfold sizeA readA
    rw [if_neg (by rw [hd]; decide), if_neg (by rw [hd]; decide), hfind]
    refine ⟨rfl, ?_⟩
    dsimp only
    rw [if_neg (by omega)]
    simp

theorem grownBy_below {W V V' : World} {k : Nat} (h : W.grownBy V (some k)) (hb : Below V.heap.size V V') : W.grownBy V' (some k) :=
  ⟨hb.os.trans h.os, hb.tape.trans h.tape, hb.output.trans h.output, Nat.le_trans h.size hb.size, fun j hj hne => (hb.block j (Nat.lt_of_lt_of_le hj h.size)).trans (h.block j hj hne)⟩

theorem grownBy_put {W V : World} {k l : Nat} (h : W.grownBy V (some k)) (hl : W.heap.size ≤ l) (o : Obj) : W.grownBy (V.putObj l o) (some k) :=
  ⟨h.os, h.tape, h.output, by simpa [World.putObj] using h.size, fun j hj hne => (World.putObj_heap_other (by omega)).trans (h.block j hj hne)⟩

set_option maxHeartbeats 8000000 in
set_option maxRecDepth 100000 in
theorem looks_in {w : World} {r1 : Role} {r2 : DRole} {D M nn : Nat} {s : DSt} {rs : List DRep} {fv kv lv uv : Value} (h1 : DiskOK w r1 D s) (h2 : DocOK w r2 M (abs s) rs fv kv lv uv) (hc : Coh (abs s)) (hf : FewA nn (abs s)) (hnn : nn ≤ 998) (n : Nat) (hn : 8 ≤ n) :
    CallsIn Fence.wide n Try.prog 19 #[.pointer (some ⟨D, 0, none⟩), .pointer (some ⟨M, 0, none⟩)] w fun e w' => e = .returned (.bool true) ∧ Below w.heap.size w w' := by
  have hn1 : 1 ≤ n := by omega
  obtain ⟨W0, hW0⟩ : ∃ W0, W0 = w.alloc (.cells #[.bool false] 4) := ⟨_, rfl⟩
  have hb0 : Below w.heap.size w W0 := by rw [hW0]; exact (Below.refl _ w).alloc (Nat.le_refl _) _
  have hB0 : W0.heap[w.heap.size]? = some (.cells #[.bool false] 4 (0, 0)) := by rw [hW0]; exact World.alloc_heap_new w _
  have g1 := h1.still hb0
  have g2 := h2.still hb0
  have hsort := h1.sortedA
  have hlen : (toldA (abs s)).length ≤ 1000 := by
    unfold toldA
    split
    · simp
    · unfold dataL; rw [List.length_map]; have := hf.files; omega
  obtain ⟨od, hod⟩ : ∃ od, od = (abs s).ops := ⟨_, rfl⟩
  obtain ⟨dd, hdd⟩ : ∃ dd, dd = s.dead := ⟨_, rfl⟩
  have HCEL : Hid (∀ V, Below W0.heap.size W0 V → V.cell? ⟨M, 6, none⟩ = some (.int .i64 od) ∧ V.cell? ⟨M, 7, none⟩ = some (.bool dd)) := fun V hV => by
    rw [hod, hdd]
    exact ⟨blk_cell (o := 6) (g2.still hV).str rfl, blk_cell (o := 7) (g2.still hV).str rfl⟩
  have HOPS : Hid (∀ V, Below W0.heap.size W0 V → Calls Try.prog 16 #[.pointer (some ⟨D, 0, none⟩)] V fun r w' => r = .returned (.int .i64 od) ∧ V = w') := fun V hV => by
    rw [hod]; exact ops_D (g1.still hV)
  have HDEAD : Hid (∀ V, Below W0.heap.size W0 V → Calls Try.prog 20 #[.pointer (some ⟨D, 0, none⟩)] V fun r w' => r = .returned (.bool dd) ∧ V = w') := fun V hV => by
    rw [hdd]; exact dDead (g1.still hV) _ rfl
  obtain ⟨tl, htl⟩ : ∃ tl, tl = toldA (abs s) := ⟨_, rfl⟩
  have HFIL : Hid (∀ V, Below W0.heap.size W0 V → Calls Try.prog 21 #[.pointer (some ⟨D, 0, none⟩)] V fun r w' => ∃ a n c, r = .returned (.slice a n c) ∧ Hid (FilesAt w' V.heap.size (.slice a n c) tl) ∧ Hid (Below W0.heap.size W0 w') ∧ Hid (Below V.heap.size V w')) := fun V hV => by
    rw [htl]
    refine (filesZ_D (g1.still hV)).mono ?_
    rintro r w' ⟨a, n, c, rfl, HF, hb⟩
    exact ⟨a, n, c, rfl, HF, hV.trans (hb.mono hV.size), hb⟩
  have HSAF : Hid (∀ V, Below W0.heap.size W0 V → Calls Try.prog 22 #[.pointer (some ⟨D, 0, none⟩)] V fun r w' => ∃ a n c, r = .returned (.slice a n c) ∧ Hid (FilesAt w' V.heap.size (.slice a n c) (safeL (abs s).fs)) ∧ Hid (Below W0.heap.size W0 w') ∧ Hid (Below V.heap.size V w')) := fun V hV => by
    refine (safe_D (g1.still hV)).mono ?_
    rintro r w' ⟨a, n, c, rfl, HF, hb⟩
    exact ⟨a, n, c, rfl, HF, hV.trans (hb.mono hV.size), hb⟩
  have HALF : Hid (∀ V, Below W0.heap.size W0 V → Calls Try.prog 50 #[.pointer (some ⟨M, 0, none⟩), .bool false] V fun r w' => ∃ a n c, r = .returned (.slice a n c) ∧ Hid (FilesAt w' V.heap.size (.slice a n c) tl) ∧ Hid (Below W0.heap.size W0 w') ∧ Hid (Below V.heap.size V w')) := fun V hV => by
    rw [htl]
    refine (rall_any (g2.still hV) hc hf hnn false).mono ?_
    rintro r w' ⟨a, n, c, rfl, HF, HB⟩
    exact ⟨a, n, c, rfl, HF, hV.trans (HB.out.mono hV.size), HB⟩
  have HALT : Hid (∀ V, Below W0.heap.size W0 V → Calls Try.prog 50 #[.pointer (some ⟨M, 0, none⟩), .bool true] V fun r w' => ∃ a n c, r = .returned (.slice a n c) ∧ Hid (FilesAt w' V.heap.size (.slice a n c) (safeL (abs s).fs)) ∧ Hid (Below W0.heap.size W0 w') ∧ Hid (Below V.heap.size V w')) := fun V hV => by
    refine (rall_any (g2.still hV) hc hf hnn true).mono ?_
    rintro r w' ⟨a, n, c, rfl, HF, HB⟩
    exact ⟨a, n, c, rfl, HF, hV.trans (HB.out.mono hV.size), HB⟩
  have HSZ : Hid (∀ V, Below W0.heap.size W0 V → ∀ (j : Nat) (x : ByteArray × List UInt8), tl[j]? = some x → Calls Try.prog 24 #[.pointer (some ⟨D, 0, none⟩), .string x.1] V fun r w' => r = .returned (.tuple #[.int .i64 x.2.length, .int .i64 0]) ∧ V = w') := fun V hV j x hx => by
    have := size_D (g1.still hV) x.1
    rw [(told_at hsort (by rw [← htl]; exact hx)).1] at this
    exact this
  have HRD : Hid (∀ V, Below W0.heap.size W0 V → ∀ (j : Nat) (x : ByteArray × List UInt8), tl[j]? = some x → Calls Try.prog 17 #[.pointer (some ⟨D, 0, none⟩), .string x.1, .int .i64 0, .int .i64 x.2.length] V fun r w' => ∃ q c, r = .returned (.tuple #[.slice q x.2.length c, .int .i64 0]) ∧ Hid (Out V x.2 (.slice q x.2.length c) w')) := fun V hV j x hx => by
    have hlx : x.2.length ≤ 9223372036854775807 := by
      rw [htl] at hx
      unfold toldA at hx
      split at hx
      · simp at hx
      · unfold dataL at hx
        rw [List.getElem?_map, Option.map_eq_some_iff] at hx
        obtain ⟨f, hfx, rfl⟩ := hx
        have hff : f ∈ s.fs.map (·.a) := List.mem_of_getElem? hfx
        obtain ⟨F, hF, rfl⟩ := List.mem_map.1 hff
        have := (h1.each F hF).ldata
        show F.a.data.length ≤ _
        omega
    have := read_D (g1.still hV) x.1 0 x.2.length ⟨by decide, by decide⟩ ⟨by omega, by omega⟩
    rw [(told_at hsort (by rw [← htl]; exact hx)).2] at this
    refine this.mono ?_
    rintro r w' ⟨v, rfl, ho⟩
    obtain ⟨q, c, rfl, _⟩ := own_slice ho.1
    exact ⟨q, c, rfl, ho⟩
  have HEA : Hid (∀ V, Below W0.heap.size W0 V → Calls Try.prog 25 #[.pointer (some ⟨D, 0, none⟩)] V fun e w' => e = .returned (.func (.func 53) #[] #[.pointer (some ⟨V.heap.size, 0, none⟩), .pointer (some ⟨V.heap.size + 1, 0, none⟩)]) ∧ Hid (EachM V (tl.map fun x => .string x.1) (tl.map fun x => .int .i64 x.2.length) w')) := fun V hV => by
    rw [htl]
    exact each_D (g1.still hV)
  rw [← htl] at hlen
  have q6 : (od != od) = false := by simp
  have q7 : (dd != dd) = false := by simp
  have HB0 := hideP hB0
  have HW0 := hideP hW0
  have HBW := hideP hb0
  clear h1 h2 hc hf hnn g1 g2 hsort hod hdd htl hW0 hb0 hB0
  refine callsIn_of_wp_marks Try.func19 rfl trivial ?_ rfl
  simp only [Try.ntmps19, List.size_toArray, List.length_cons, List.length_nil, Nat.reduceAdd, Nat.reduceSub, Array.replicate_succ, Array.replicate_zero, List.push_toArray, List.append_toArray, List.nil_append, List.cons_append]
  gi_wp2_with fail
  rw [← HW0.out]
  refine regionIn_wide (S := fun V => Below W0.heap.size W0 V) (by kernel_rfl) (Below.refl _ _).drew (fun hS => ?_)
  refine wpAnyH_takeL (i := 0) (v := ?_) rfl (by kernel_rfl) (by kernel_rfl) (by kernel_rfl) (fun _ _ _ h => h) (Or.inl ⟨by kernel_rfl, ?_⟩) hS ?_
  rotate_left
  · intro V hV
    obtain ⟨y6, y7⟩ := HCEL.out V hV
    go_simp
    (try with_reducible rfl)
  simp only [put_list, List.set_cons_succ, List.set_cons_zero]
  refine wpAnyH_takeL (i := 2) (v := ?_) rfl (by kernel_rfl) (by kernel_rfl) (by kernel_rfl) (fun _ _ _ h => h) (Or.inl ⟨by kernel_rfl, ?_⟩) hS ?_
  rotate_left
  · intro V hV
    obtain ⟨y6, y7⟩ := HCEL.out V hV
    go_simp
    (try with_reducible rfl)
  simp only [put_list, List.set_cons_succ, List.set_cons_zero]
  refine wpAnyH_takeL (i := 3) (v := ?_) rfl (by kernel_rfl) (by kernel_rfl) (by kernel_rfl) (fun _ _ _ h => h) (Or.inl ⟨by kernel_rfl, ?_⟩) hS ?_
  rotate_left
  · intro V hV
    obtain ⟨y6, y7⟩ := HCEL.out V hV
    go_simp
    (try with_reducible rfl)
  simp only [put_list, List.set_cons_succ, List.set_cons_zero]
  refine wpAnyH_takeL (i := 4) (v := ?_) rfl (by kernel_rfl) (by kernel_rfl) (by kernel_rfl) (fun _ _ _ h => h) (Or.inl ⟨by kernel_rfl, ?_⟩) hS ?_
  rotate_left
  · intro V hV
    obtain ⟨y6, y7⟩ := HCEL.out V hV
    go_simp
    (try with_reducible rfl)
  simp only [put_list, List.set_cons_succ, List.set_cons_zero]
  refine wpAnyH_takeL (i := 5) (v := ?_) rfl (by kernel_rfl) (by kernel_rfl) (by kernel_rfl) (fun _ _ _ h => h) (Or.inl ⟨by kernel_rfl, ?_⟩) hS ?_
  rotate_left
  · intro V hV
    obtain ⟨y6, y7⟩ := HCEL.out V hV
    go_simp
    (try with_reducible rfl)
  simp only [put_list, List.set_cons_succ, List.set_cons_zero]
  refine wpAnyH_ready (rs := [1]) (by kernel_rfl) (by simp) (AllReadyH.cons rfl (fun K hK => ?_) (AllReadyH.nil))
  go_simp
  refine (HOPS.out _ hS).mono ?_
  rintro r V9 ⟨rfl, rfl⟩
  refine hK.out _ _ (by (first | exact hS | exact hbx.out)) (fun hS => ?_)
  clear hK K
  refine wpAnyH_takeL (i := 6) (v := ?_) rfl (by kernel_rfl) (by kernel_rfl) (by kernel_rfl) (fun _ _ _ h => h) (Or.inl ⟨by kernel_rfl, ?_⟩) hS ?_
  rotate_left
  · intro V hV
    obtain ⟨y6, y7⟩ := HCEL.out V hV
    go_simp
    (try with_reducible rfl)
  simp only [put_list, List.set_cons_succ, List.set_cons_zero]
  refine wpAnyH_takeL (i := 7) (v := ?_) rfl (by kernel_rfl) (by kernel_rfl) (by kernel_rfl) (fun _ _ _ h => h) (Or.inl ⟨by kernel_rfl, ?_⟩) hS ?_
  rotate_left
  · intro V hV
    obtain ⟨y6, y7⟩ := HCEL.out V hV
    go_simp
    (try with_reducible rfl)
  simp only [put_list, List.set_cons_succ, List.set_cons_zero]
  refine wpAnyH_takeL (i := 8) (v := ?_) rfl (by kernel_rfl) (by kernel_rfl) (by kernel_rfl) (fun _ _ _ h => h) (Or.inl ⟨by kernel_rfl, ?_⟩) hS ?_
  rotate_left
  · intro V hV
    obtain ⟨y6, y7⟩ := HCEL.out V hV
    go_simp
    (try with_reducible rfl)
  simp only [put_list, List.set_cons_succ, List.set_cons_zero]
  refine wpAnyH_takeL (i := 10) (v := ?_) rfl (by kernel_rfl) (by kernel_rfl) (by kernel_rfl) (fun _ _ _ h => h) (Or.inl ⟨by kernel_rfl, ?_⟩) hS ?_
  rotate_left
  · intro V hV
    obtain ⟨y6, y7⟩ := HCEL.out V hV
    go_simp
    (try with_reducible rfl)
  simp only [put_list, List.set_cons_succ, List.set_cons_zero]
  refine wpAnyH_takeL (i := 11) (v := ?_) rfl (by kernel_rfl) (by kernel_rfl) (by kernel_rfl) (fun _ _ _ h => h) (Or.inl ⟨by kernel_rfl, ?_⟩) hS ?_
  rotate_left
  · intro V hV
    obtain ⟨y6, y7⟩ := HCEL.out V hV
    go_simp
    (try with_reducible rfl)
  simp only [put_list, List.set_cons_succ, List.set_cons_zero]
  refine wpAnyH_takeL (i := 12) (v := ?_) rfl (by kernel_rfl) (by kernel_rfl) (by kernel_rfl) (fun _ _ _ h => h) (Or.inl ⟨by kernel_rfl, ?_⟩) hS ?_
  rotate_left
  · intro V hV
    obtain ⟨y6, y7⟩ := HCEL.out V hV
    go_simp
    (try with_reducible rfl)
  simp only [put_list, List.set_cons_succ, List.set_cons_zero]
  refine wpAnyH_takeL (i := 13) (v := ?_) rfl (by kernel_rfl) (by kernel_rfl) (by kernel_rfl) (fun _ _ _ h => h) (Or.inl ⟨by kernel_rfl, ?_⟩) hS ?_
  rotate_left
  · intro V hV
    obtain ⟨y6, y7⟩ := HCEL.out V hV
    go_simp
    (try with_reducible rfl)
  simp only [put_list, List.set_cons_succ, List.set_cons_zero]
  refine wpAnyH_ready (rs := [9]) (by kernel_rfl) (by simp) (AllReadyH.cons rfl (fun K hK => ?_) (AllReadyH.nil))
  go_simp
  refine (HDEAD.out _ hS).mono ?_
  rintro r V9 ⟨rfl, rfl⟩
  refine hK.out _ _ (by (first | exact hS | exact hbx.out)) (fun hS => ?_)
  clear hK K
  refine wpAnyH_takeL (i := 14) (v := ?_) rfl (by kernel_rfl) (by kernel_rfl) (by kernel_rfl) (fun _ _ _ h => h) (Or.inl ⟨by kernel_rfl, ?_⟩) hS ?_
  rotate_left
  · intro V hV
    obtain ⟨y6, y7⟩ := HCEL.out V hV
    go_simp
    (try with_reducible rfl)
  simp only [put_list, List.set_cons_succ, List.set_cons_zero]
  refine wpAnyH_takeL (i := 15) (v := ?_) rfl (by kernel_rfl) (by kernel_rfl) (by kernel_rfl) (fun _ _ _ h => h) (Or.inl ⟨by kernel_rfl, ?_⟩) hS ?_
  rotate_left
  · intro V hV
    obtain ⟨y6, y7⟩ := HCEL.out V hV
    go_simp
    (try with_reducible rfl)
  simp only [put_list, List.set_cons_succ, List.set_cons_zero]
  refine wpAnyH_takeL (i := 16) (v := ?_) rfl (by kernel_rfl) (by kernel_rfl) (by kernel_rfl) (fun _ _ _ h => h) (Or.inl ⟨by kernel_rfl, ?_⟩) hS ?_
  rotate_left
  · intro V hV
    obtain ⟨y6, y7⟩ := HCEL.out V hV
    go_simp
    (try with_reducible rfl)
  simp only [put_list, List.set_cons_succ, List.set_cons_zero]
  refine wpAnyH_takeL (i := 17) (v := ?_) rfl (by kernel_rfl) (by kernel_rfl) (by kernel_rfl) (fun _ _ _ h => h) (Or.inl ⟨by kernel_rfl, ?_⟩) hS ?_
  rotate_left
  · intro V hV
    obtain ⟨y6, y7⟩ := HCEL.out V hV
    go_simp
    (try with_reducible rfl)
  simp only [put_list, List.set_cons_succ, List.set_cons_zero]
  refine wpAnyH_takeL (i := 19) (v := ?_) rfl (by kernel_rfl) (by kernel_rfl) (by kernel_rfl) (fun _ _ _ h => h) (Or.inl ⟨by kernel_rfl, ?_⟩) hS ?_
  rotate_left
  · intro V hV
    obtain ⟨y6, y7⟩ := HCEL.out V hV
    go_simp
    (try with_reducible rfl)
  simp only [put_list, List.set_cons_succ, List.set_cons_zero]
  refine wpAnyH_ready (rs := [18]) (by kernel_rfl) (by simp) (AllReadyH.cons rfl (fun K hK => ?_) (AllReadyH.nil))
  go_simp
  refine (HFIL.out _ hS).mono ?_
  rintro r V9 ⟨a1, n1, c1, rfl, HF1, hbx, hby⟩
  refine hK.out _ _ (by (first | exact hS | exact hbx.out)) (fun hS => ?_)
  clear hK K
  refine wpAnyH_ready (rs := [20]) (by kernel_rfl) (by simp) (AllReadyH.cons rfl (fun K hK => ?_) (AllReadyH.nil))
  go_simp
  refine (HALF.out _ hS).mono ?_
  rintro r V9 ⟨a2, n2, c2, rfl, HF2, hbx, hby⟩
  have HSM := hideP (same_true (HF1.out.later hby.out) HF2.out)
  refine hK.out _ _ (by (first | exact hS | exact hbx.out)) (fun hS => ?_)
  clear hK K
  refine wpAnyH_ready (rs := [21]) (by kernel_rfl) (by simp) (AllReadyH.cons rfl (fun K hK => ?_) (AllReadyH.nil))
  go_simp
  refine HSM.out.mono ?_
  rintro r V9 ⟨rfl, hbz⟩
  have hbx := hideP (hS.trans (hbz.mono hS.size))
  clear hbz HSM HF1 HF2
  refine hK.out _ _ (by (first | exact hS | exact hbx.out)) (fun hS => ?_)
  clear hK K
  refine wpAnyH_takeL (i := 22) (v := ?_) rfl (by kernel_rfl) (by kernel_rfl) (by kernel_rfl) (fun _ _ _ h => h) (Or.inl ⟨by kernel_rfl, ?_⟩) hS ?_
  rotate_left
  · intro V hV
    obtain ⟨y6, y7⟩ := HCEL.out V hV
    go_simp
    (try with_reducible rfl)
  simp only [put_list, List.set_cons_succ, List.set_cons_zero]
  refine wpAnyH_takeL (i := 23) (v := ?_) rfl (by kernel_rfl) (by kernel_rfl) (by kernel_rfl) (fun _ _ _ h => h) (Or.inl ⟨by kernel_rfl, ?_⟩) hS ?_
  rotate_left
  · intro V hV
    obtain ⟨y6, y7⟩ := HCEL.out V hV
    go_simp
    (try with_reducible rfl)
  simp only [put_list, List.set_cons_succ, List.set_cons_zero]
  refine wpAnyH_takeL (i := 24) (v := ?_) rfl (by kernel_rfl) (by kernel_rfl) (by kernel_rfl) (fun _ _ _ h => h) (Or.inl ⟨by kernel_rfl, ?_⟩) hS ?_
  rotate_left
  · intro V hV
    obtain ⟨y6, y7⟩ := HCEL.out V hV
    go_simp
    (try with_reducible rfl)
  simp only [put_list, List.set_cons_succ, List.set_cons_zero]
  refine wpAnyH_takeL (i := 25) (v := ?_) rfl (by kernel_rfl) (by kernel_rfl) (by kernel_rfl) (fun _ _ _ h => h) (Or.inl ⟨by kernel_rfl, ?_⟩) hS ?_
  rotate_left
  · intro V hV
    obtain ⟨y6, y7⟩ := HCEL.out V hV
    go_simp
    (try with_reducible rfl)
  simp only [put_list, List.set_cons_succ, List.set_cons_zero]
  refine wpAnyH_takeL (i := 27) (v := ?_) rfl (by kernel_rfl) (by kernel_rfl) (by kernel_rfl) (fun _ _ _ h => h) (Or.inl ⟨by kernel_rfl, ?_⟩) hS ?_
  rotate_left
  · intro V hV
    obtain ⟨y6, y7⟩ := HCEL.out V hV
    go_simp
    (try with_reducible rfl)
  simp only [put_list, List.set_cons_succ, List.set_cons_zero]
  refine wpAnyH_ready (rs := [26]) (by kernel_rfl) (by simp) (AllReadyH.cons rfl (fun K hK => ?_) (AllReadyH.nil))
  go_simp
  refine (HSAF.out _ hS).mono ?_
  rintro r V9 ⟨a1, n1, c1, rfl, HF1, hbx, hby⟩
  refine hK.out _ _ (by (first | exact hS | exact hbx.out)) (fun hS => ?_)
  clear hK K
  refine wpAnyH_ready (rs := [28]) (by kernel_rfl) (by simp) (AllReadyH.cons rfl (fun K hK => ?_) (AllReadyH.nil))
  go_simp
  refine (HALT.out _ hS).mono ?_
  rintro r V9 ⟨a2, n2, c2, rfl, HF2, hbx, hby⟩
  have HSM := hideP (same_true (HF1.out.later hby.out) HF2.out)
  refine hK.out _ _ (by (first | exact hS | exact hbx.out)) (fun hS => ?_)
  clear hK K
  refine wpAnyH_ready (rs := [29]) (by kernel_rfl) (by simp) (AllReadyH.cons rfl (fun K hK => ?_) (AllReadyH.nil))
  go_simp
  refine HSM.out.mono ?_
  rintro r V9 ⟨rfl, hbz⟩
  have hbx := hideP (hS.trans (hbz.mono hS.size))
  clear hbz HSM HF1 HF2
  refine hK.out _ _ (by (first | exact hS | exact hbx.out)) (fun hS => ?_)
  clear hK K
  refine wpAnyH_takeL (i := 30) (v := ?_) rfl (by kernel_rfl) (by kernel_rfl) (by kernel_rfl) (fun _ _ _ h => h) (Or.inl ⟨by kernel_rfl, ?_⟩) hS ?_
  rotate_left
  · intro V hV
    obtain ⟨y6, y7⟩ := HCEL.out V hV
    go_simp
    (try with_reducible rfl)
  simp only [put_list, List.set_cons_succ, List.set_cons_zero]
  refine wpAnyH_takeL (i := 31) (v := ?_) rfl (by kernel_rfl) (by kernel_rfl) (by kernel_rfl) (fun _ _ _ h => h) (Or.inl ⟨by kernel_rfl, ?_⟩) hS ?_
  rotate_left
  · intro V hV
    obtain ⟨y6, y7⟩ := HCEL.out V hV
    go_simp
    (try with_reducible rfl)
  simp only [put_list, List.set_cons_succ, List.set_cons_zero]
  refine wpAnyH_done (by kernel_rfl) ?_ _
  have HBV := hideP hS
  clear hS hbx HOPS HDEAD HFIL HSAF HALT HCEL
  simp only [OnlyN]
  gi_wp2_with fail
  refine ⟨trivial, callsIn_wide.2 ((HALF.out _ HBV.out).mono ?_)⟩
  rintro e W2 ⟨a2, n2, c2, rfl, HFA, HB2, HB2'⟩
  clear HBV HB2'
  obtain rfl : n2 = tl.length := by
    obtain ⟨a, c, e, _⟩ := HFA.out.shape
    cases e
    rfl
  gi_wp2
  gi_loopw [7, 8, 9, 10, 51] (fun _ _ _ _ i wr => ∃ j : Nat, j ≤ tl.length ∧ i = .int .i64 j ∧ Hid (Below W2.heap.size W2 wr)) (fun _ _ _ _ i _ => tl.length - (intOf i).toNat)
  case atStart => exact ⟨0, Nat.zero_le _, rfl, Below.refl _ _⟩
  case round =>
    obtain ⟨j, hj, rfl, hb⟩ := hrel
    by_cases hjl : j < tl.length
    · have hjl' : (j : Int) < (tl.length : Int) := by omega
      obtain ⟨g, q, m, k, rfl, m1, m2, hm1, m3⟩ := (HFA.out.later hb.out).at_ hjl
      have hxx : tl[j]? = some tl[j] := List.getElem?_eq_getElem hjl
      generalize tl[j] = x at *
      subst hm1
      obtain ⟨W3, hW3⟩ : ∃ W3, W3 = wr.alloc (.cells #[.string x.1, .slice q x.2.length k] 69) := ⟨_, rfl⟩
      have hal : Below wr.heap.size wr W3 := by rw [hW3]; exact (Below.refl _ wr).alloc (Nat.le_refl _) _
      have hbx : W3.heap[wr.heap.size]? = some (.cells #[.string x.1, .slice q x.2.length k] 69 (0, 0)) := by rw [hW3]; exact World.alloc_heap_new wr _
      have hb03 : Below W0.heap.size W0 W3 := (HB2.out.trans (hb.out.mono HB2.out.size)).trans (hal.mono (Nat.le_trans HB2.out.size hb.out.size))
      have HSZc := hideP (HSZ.out W3 hb03 j x hxx)
      have HRDc := hideP (HRD.out W3 hb03 j x hxx)
      have HW3 := hideP hW3
      have HR4 : Hid (∀ W4 q4 c4, Out W3 x.2 (.slice q4 x.2.length c4) W4 → Below W2.heap.size W2 W4 ∧ W4.cell? ⟨wr.heap.size, 1, none⟩ = some (.slice q x.2.length k) ∧ (convert 33 9 (.slice q4 x.2.length c4)).run Try.prog W4 = .ok (.string ⟨x.2.toArray⟩) W4 ∧ (convert 33 9 (.slice q x.2.length k)).run Try.prog W4 = .ok (.string ⟨x.2.toArray⟩) W4) := fun W4 q4 c4 ho => by
        have h34 := ho.2
        have hw4 : Below wr.heap.size wr W4 := hal.trans (h34.mono hal.size)
        exact ⟨hb.out.trans (hw4.mono hb.out.size), blk_cell ((h34.block _ (lt_of_block hbx)).trans hbx) rfl, conv_out ho.1, m3 W4 hw4⟩
      have b0 : W3.cell? ⟨wr.heap.size, 0, none⟩ = some (.string x.1) := blk_cell hbx rfl
      have b1 : W3.cell? ⟨wr.heap.size, 1, none⟩ = some (.slice q x.2.length k) := blk_cell hbx rfl
      have hse2 : ((⟨x.2.toArray⟩ : ByteArray).toList == (⟨x.2.toArray⟩ : ByteArray).toList) = true := by simp
      have hse3 : (((x.2.length : Nat) : Int) != ((x.2.length : Nat) : Int)) = false := by simp
      clear m3 hxx hW3 hal hbx hb03 hb HB2
      gi_wp2_with fail
      rw [← HW3.out]
      refine ⟨trivial, callsIn_wide.2 (HSZc.out.mono ?_)⟩
      rintro e V ⟨rfl, rfl⟩
      clear HSZc m1 m2
      gi_wp2_with fail
      refine ⟨trivial, callsIn_wide.2 (HRDc.out.mono ?_)⟩
      rintro e W4 ⟨q4, c4, rfl, HO⟩
      obtain ⟨r1, r2, r3, r4⟩ := HR4.out W4 q4 c4 HO.out
      have HB4 := hideP r1
      clear r1 HO HRDc HR4 b0 b1 HW3
      gi_wp2
      go_roundw
      case rel => exact ⟨j + 1, by omega, by go_num, HB4⟩
      case measure => simp [intOf]; omega
    · have hjl' : ¬ (j : Int) < (tl.length : Int) := by omega
      have hje : j = tl.length := by omega
      subst hje
      have HB02 := hideP (HB2.out.trans (hb.out.mono HB2.out.size))
      have hea := HEA.out wr HB02.out
      clear hb HB2 HFA HSZ HRD HEA hj hjl
      gi_wp2_with fail
      refine ⟨trivial, callsIn_wide.2 (hea.mono ?_)⟩
      rintro e W5 ⟨rfl, HE⟩
      clear hea
      have HB5 := hideP (HB02.out.trans (HE.out.below.mono HB02.out.size))
      obtain ⟨an, cn, az, cz, e1, e2⟩ := HE.out.rdz
      have HRZ := hideP (And.intro e1 e2)
      have hnil : (binOp .eql 59 (.func (.func 53) #[] #[.pointer (some ⟨wr.heap.size, 0, none⟩), .pointer (some ⟨wr.heap.size + 1, 0, none⟩)]) .nilFunc).run Try.prog W5 = .ok (.bool false) W5 := rfl
      clear HE HB02 e1 e2 hjl'
      gi_wp2_with fail
      clear hnil
      refine range_seq (n := n) hn1 rfl (enters_of Try.func53 (by kernel_rfl) rfl) (eaV (fun k => (tl.getD k (ByteArray.empty, [])).1) (fun k => ((tl.getD k (ByteArray.empty, [])).2.length : Int))) tl.length (fun _ => by rfl) _ (each1_gives (n - 1) (by omega) W5 (by omega) HRZ.out.1 HRZ.out.2)
        (fun k V => Below W5.heap.size W5 V) (fun c V => c = .exit 2 ∧ Below W5.heap.size W5 V)
        (fun k V V' h hb => h.trans (hb.mono h.size)) (fun c V V' h hb => ⟨h.1, h.2.trans (hb.mono h.2.size)⟩)
        (fun k V l o o' h hl _ _ => h.trans (below_putObj _ hl)) (fun c V l o o' h hl _ _ => ⟨h.1, h.2.trans (below_putObj _ hl)⟩)
        (fun V V' l o o' h hl q1 q2 hr => (h hr).later (fun p u hp => putObj_cell q1 q2 hp)) (Below.refl _ _) ?round ?done ?stop
      case round =>
        rintro l k V hk hI hl ⟨rr, hlr⟩
        have HI := hideP (And.intro hI hl)
        clear hI hl hlr
        unfold eaV
        gi_wp2
        refine ⟨KeepsFrom.refl _ _, fun r => ?_⟩
        gi_wp2
        exact ⟨KeepsFrom.refl _ _, rfl, HI.out.1.trans (below_putObj _ HI.out.2)⟩
      case done =>
        rintro D1 W6 hD hb6 hK
        have HB56 := hideP hb6
        have HB6 := hideP (HB5.out.trans (hb6.mono HB5.out.size))
        have HK1 := hideP hK
        have HD1 := hideP hD
        clear hb6 hK hD
        gi_wp2_with fail
        refine ⟨trivial, callsIn_wide.2 ((HALF.out _ HB6.out).mono ?_)⟩
        rintro e W7 ⟨a7, n7, c7, rfl, HF7, HB7, HB67⟩
        obtain rfl : n7 = tl.length := by
          obtain ⟨a, c, e, _⟩ := HF7.out.shape
          cases e
          rfl
        gi_wp2_with fail
        obtain ⟨W8, hW8⟩ : ∃ W8, W8 = (W7.alloc (.cells #[.slice a7 tl.length c7] 53)).alloc (.cells #[.int .i64 0] 3) := ⟨_, rfl⟩
        rw [← hW8]
        have hA8 : W8.heap[W7.heap.size]? = some (.cells #[.slice a7 tl.length c7] 53 (0, 0)) := by
          rw [hW8]
          exact (Below.heap_alloc _ _ _ (by simp)).trans (World.alloc_heap_new W7 _)
        have hK8 : W8.heap[W7.heap.size + 1]? = some (.cells #[.int .i64 0] 3 (0, 0)) := by
          rw [hW8]
          have := World.alloc_heap_new (W7.alloc (.cells #[.slice a7 tl.length c7] 53)) (.cells #[.int .i64 0] 3)
          rwa [World.size_alloc] at this
        have hz8 : W8.heap.size = W7.heap.size + 2 := by rw [hW8]; simp
        have hb78 : Below W7.heap.size W7 W8 := by rw [hW8]; exact ((Below.refl _ W7).alloc (Nat.le_refl _) _).alloc (by simp) _
        have hb57 : Below W5.heap.size W5 W7 := HB56.out.trans (HB67.out.mono HB56.out.size)
        have hb58 : Below W5.heap.size W5 W8 := hb57.trans (hb78.mono hb57.size)
        have hb08 : Below W0.heap.size W0 W8 := HB7.out.trans (hb78.mono HB7.out.size)
        have hz57 := hb57.size
        have hup : ∀ p u, W5.cell? p = some u → W8.cell? p = some u := fun p u h => (hb58.cell (World.block_lt_of_cell? W5 _ h)).trans h
        refine range_seq (n := n) hn1 rfl (enters_of Try.func53 (by kernel_rfl) rfl) (eaV (fun k => (tl.getD k (ByteArray.empty, [])).1) (fun k => ((tl.getD k (ByteArray.empty, [])).2.length : Int))) tl.length (fun _ => by rfl) _ (each1_gives (n - 1) (by omega) W8 (by omega) (hup _ _ HRZ.out.1) (HRZ.out.2.later hup))
          (fun k V => W8.grownBy V (some (W7.heap.size + 1)) ∧ V.heap[W7.heap.size + 1]? = some (.cells #[.int .i64 (k : Nat)] 3 (0, 0))) (fun _ _ => False)
          (fun k V V' h hb => ⟨grownBy_below h.1 hb, (hb.block _ (lt_of_block h.2)).trans h.2⟩) (fun c V V' h hb => h)
          (fun k V l o o' h hl _ _ => ⟨grownBy_put h.1 hl _, (World.putObj_heap_other (by omega)).trans h.2⟩) (fun c V l o o' h hl _ _ => h)
          (fun V V' l o o' h hl q1 q2 hr => (h hr).later (fun p u hp => putObj_cell q1 q2 hp)) ⟨⟨rfl, rfl, rfl, Nat.le_refl _, fun _ _ _ => rfl⟩, hK8⟩ ?round2 ?done2 ?stop2
        case stop2 =>
          rintro D9 c9 V _ hx _
          exact hx.elim
        case round2 =>
          rintro l k V hk hI hl ⟨rr, hlr⟩
          obtain ⟨g, q, m, kk, rfl, m1, m2, hm1, _⟩ := HF7.out.at_ hk
          have hx : tl.getD k (ByteArray.empty, []) = tl[k] := by simp [List.getD, List.getElem?_eq_getElem hk]
          generalize tl[k] = x at *
          have hv : eaV (fun k => (tl.getD k (ByteArray.empty, [])).1) (fun k => ((tl.getD k (ByteArray.empty, [])).2.length : Int)) k = #[.string x.1, .int .i64 x.2.length] := by
            unfold eaV
            dsimp only
            rw [hx]
          rw [hv]
          have hgz : g < W7.heap.size := World.block_lt_of_cell? W7 _ m1
          have hcell : ∀ (V1 : World) (b i : Nat) (u : Value), (∀ j, j < W8.heap.size → j ≠ W7.heap.size + 1 → V1.heap[j]? = W8.heap[j]?) → b < W7.heap.size + 1 → W8.cell? ⟨b, i, none⟩ = some u → V1.cell? ⟨b, i, none⟩ = some u := fun V1 b i u hV hb hc => (World.cell?_of_block (w := W8) (a := ⟨b, i, none⟩) (hV b (by omega) (by omega))).trans hc
          have hk' : ¬ ((tl.length : Int) ≤ (k : Int)) := by omega
          have hkt : (k : Int) < (tl.length : Int) := by omega
          have hse1 : (x.1.toList == x.1.toList) = true := by simp
          have hse2 : (((x.2.length : Nat) : Int) != ((x.2.length : Nat) : Int)) = false := by simp
          subst hm1
          have e1 : IntKind.i64.wrap ((k : Int) + 1) = (k : Int) + 1 := by rw [IntKind.wrap_i64]; omega
          have n1 := (hb78.cell (p := ⟨g, k * 2, none⟩) hgz).trans m1
          have n2 := (hb78.cell (p := ⟨g, k * 2 + 1, none⟩) hgz).trans m2
          have n3 : W8.cell? ⟨W7.heap.size, 0, none⟩ = some (.slice (some ⟨g, 0, none⟩) tl.length c7) := blk_cell hA8 rfl
          have HQ := hideP (And.intro hI (And.intro hl (And.intro hlr (And.intro hcell (And.intro hgz (And.intro n1 (And.intro n2 (And.intro n3 (And.intro hz8 hz57)))))))))
          clear hI hl hlr hcell hgz n1 n2 n3 hz8 hz57 hup hb78 hb57 hb58 hb08 hA8 hK8 m1 m2 hW8 hlen
          gi_wp2
          obtain ⟨hI, hl, hlr, hcell, hgz, n1, n2, n3, hz8, hz57⟩ := HQ.out
          refine ⟨KeepsFrom.refl _ _, fun r => ?_⟩
          have hV1 : ∀ j, j < W8.heap.size → j ≠ W7.heap.size + 1 → (V.putObj l (.loop r)).heap[j]? = W8.heap[j]? := fun j hj hne => (World.putObj_heap_other (by omega)).trans (hI.1.block j hj (fun e => hne (by cases e; rfl)))
          have hKV : (V.putObj l (.loop r)).heap[W7.heap.size + 1]? = some (.cells #[.int .i64 (k : Nat)] 3 (0, 0)) := (World.putObj_heap_other (by omega)).trans hI.2
          have hzV : (V.putObj l (.loop r)).heap.size = V.heap.size := by simp [World.putObj]
          obtain ⟨V1, hVe⟩ : ∃ V1, V1 = V.putObj l (.loop r) := ⟨_, rfl⟩
          rw [← hVe] at hV1 hKV hzV ⊢
          have d1 := hcell V1 _ _ _ hV1 (by omega) n1
          have d2 := hcell V1 _ _ _ hV1 (by omega) n2
          have d3 := hcell V1 _ _ _ hV1 (by omega) n3
          have d4 : V1.cell? ⟨W7.heap.size + 1, 0, none⟩ = some (.int .i64 (k : Nat)) := blk_cell hKV rfl
          have d5 : V1.frozen? ⟨W7.heap.size + 1, 0, none⟩ = false := blk_free hKV
          have HP := hideP (And.intro hV1 (And.intro hKV (And.intro hzV hVe)))
          clear hI hl hlr hcell hgz n1 n2 n3 hz8 hz57 hV1 hKV hzV hVe
          gi_wp2
          obtain ⟨hI, hl, hlr, hcell, hgz, n1, n2, n3, hz8, hz57⟩ := HQ.out
          obtain ⟨hV1, hKV, hzV, hVe⟩ := HP.out
          have hset : ∀ j, j ≠ W7.heap.size + 1 → (V1.setCell ⟨W7.heap.size + 1, 0, none⟩ (.int .i64 ((k : Int) + 1))).heap[j]? = V1.heap[j]? := fun j hj => Below.heap_setCell _ _ _ j hj
          have hss : (V1.setCell ⟨W7.heap.size + 1, 0, none⟩ (.int .i64 ((k : Int) + 1))).heap.size = V1.heap.size := by simp [World.setCell]
          refine ⟨⟨Nat.le_of_eq hss.symm, fun b o hb h0 _ => (hset b (by omega)).trans h0⟩, fun hr => ?_, ⟨?_, ?_, ?_, ?_, fun j hj hne => ?_⟩, ?_⟩
          · refine hr.upd HRZ.out.2 (fun p u hp hc => ?_)
            have hpb : p.block ≠ W7.heap.size + 1 := by omega
            have hpl : p.block ≠ l := by omega
            rw [World.cell?_of_block (hset p.block hpb), hVe, World.cell?_of_block (World.putObj_heap_other hpl)]
            exact hc
          · show V1.os = W8.os
            rw [hVe]; exact hI.1.os
          · show V1.tape = W8.tape
            rw [hVe]; exact hI.1.tape
          · show V1.output = W8.output
            rw [hVe]; exact hI.1.output
          · have := hI.1.size
            omega
          · exact (hset j (fun e => hne (by rw [e]))).trans (hV1 j hj (fun e => hne (by rw [e])))
          · have := blk_set (o := 0) hKV (.int .i64 ((k : Int) + 1))
            simpa using this
        case done2 =>
          rintro D2 V hD2 hI hK2
          obtain ⟨hgr, hKV⟩ := hI
          have hb0W := HBW.out
          have hR0 : W8.heap[w.heap.size]? = some (.cells #[.bool false] 4 (0, 0)) := (hb08.block _ (lt_of_block HB0.out)).trans HB0.out
          have hzw := hb0W.size
          have hz08 := hb08.size
          have hz07 := HB7.out.size
          have hwlt := lt_of_block HB0.out
          have hRV := (hgr.block _ (lt_of_block hR0) (fun e => by simp only [Option.some.injEq] at e; omega)).trans hR0
          have hAV := (hgr.block _ (lt_of_block hA8) (fun e => by simp only [Option.some.injEq] at e; omega)).trans hA8
          have d1 : V.cell? ⟨W7.heap.size + 1, 0, none⟩ = some (.int .i64 (tl.length : Nat)) := blk_cell hKV rfl
          have d2 : V.cell? ⟨W7.heap.size, 0, none⟩ = some (.slice a7 tl.length c7) := blk_cell hAV rfl
          have d3 : V.cell? ⟨w.heap.size, 0, none⟩ = some (.bool false) := blk_cell hRV rfl
          have d4 : V.frozen? ⟨w.heap.size, 0, none⟩ = false := blk_free hRV
          have hlt1 := lt_of_block HK1.out
          have hk61 : W8.heap[D1]? = some (.deferred (some [])) := ((HB67.out.trans (hb78.mono HB67.out.size)).block D1 hlt1).trans HK1.out
          have hkD : V.heap[D1]? = some (.deferred (some [])) := (hgr.block D1 (lt_of_block hk61) (fun e => by simp only [Option.some.injEq] at e; rw [e, hK8] at hk61; cases hk61)).trans hk61
          have hbwV : Below w.heap.size w V := (hb0W.trans (hb08.mono hzw)).grown hgr (Nat.le_trans hzw hz08) (fun k e => by cases e; omega)
          have hne12 : D1 ≠ D2 := fun e => by have := lt_of_block hk61; omega
          have hw1 : D1 ≠ w.heap.size := fun e => by rw [e, hR0] at hk61; cases hk61
          have hw2 : D2 ≠ w.heap.size := by omega
          have hq : (((tl.length : Nat) : Int) == ((tl.length : Nat) : Int)) = true := by simp
          have HF := hideP (And.intro hRV (And.intro hkD (And.intro hK2 (And.intro hbwV (And.intro hne12 (And.intro hw1 (And.intro hw2 (And.intro hzw (And.intro hD2 (And.intro hz08 HD1.out))))))))))
          have HZ05 := hideP HB5.out.size
          clear hRV hAV hKV hgr hkD hK2 hbwV hne12 hw1 hw2 hk61 hlt1 hR0 hb0W hzw hz08 hz07 hwlt hup hb78 hb57 hb58 hb08 hA8 hK8 hz8 hz57 hD2 hW8 hlen
          gi_wp2
          clear d1 d2 d3 d4
          obtain ⟨hRV, hkD, hK2, hbwV, hne12, hw1, hw2, hzw, hD2, hz08, hd15⟩ := HF.out
          have hz05 := HZ05.out
          have k1 : (V.setCell ⟨w.heap.size, 0, none⟩ (.bool true)).heap[D2]? = some (.deferred (some [])) := (Below.heap_setCell V _ _ _ hw2).trans hK2
          have k0 : (V.setCell ⟨w.heap.size, 0, none⟩ (.bool true)).heap[D1]? = some (.deferred (some [])) := (Below.heap_setCell V _ _ _ hw1).trans hkD
          have hre := blk_set (o := 0) hRV (.bool true)
          have hbe : Below w.heap.size w (V.setCell ⟨w.heap.size, 0, none⟩ (.bool true)) := hbwV.setCell (p := ⟨w.heap.size, 0, none⟩) (Nat.le_refl _) _
          generalize V.setCell ⟨w.heap.size, 0, none⟩ (.bool true) = X at hbe hre k1 k0 ⊢
          have k0' : (X.putObj D2 (.deferred none)).heap[D1]? = some (.deferred (some [])) := (World.putObj_heap_other hne12).trans k0
          have e1 : ((X.putObj D2 (.deferred none)).putObj D1 (.deferred none)).heap[w.heap.size]? = some (.cells #[.bool true] 4 (0, 0)) := (World.putObj_heap_other (Ne.symm hw1)).trans ((World.putObj_heap_other (Ne.symm hw2)).trans hre)
          have ec : ((X.putObj D2 (.deferred none)).putObj D1 (.deferred none)).cell? ⟨w.heap.size, 0, none⟩ = some (.bool true) := blk_cell e1 rfl
          have hbf : Below w.heap.size w ((X.putObj D2 (.deferred none)).putObj D1 (.deferred none)) := (hbe.trans (below_putObj _ (by omega))).trans (below_putObj _ (by omega))
          refine ⟨by simp, .inl ⟨_, _, rfl, run_takeDeferred k1, ⟨by simp, .inl ⟨_, _, rfl, run_takeDeferred k0', ?_⟩⟩⟩⟩
          exact ⟨.bool true, by simp [results, Try.results19, go_sem, ec], rfl, hbf⟩
      case stop =>
        rintro D1 c6 W6 hD ⟨rfl, hb6⟩ hK
        have HB56 := hideP hb6
        have HB6 := hideP (HB5.out.trans (hb6.mono HB5.out.size))
        have HK1 := hideP hK
        have HD1 := hideP hD
        clear hb6 hK hD
        gi_wp2_with fail
        refine ⟨trivial, callsIn_wide.2 ((HALF.out _ HB6.out).mono ?_)⟩
        rintro e W7 ⟨a7, n7, c7, rfl, HF7, HB7, HB67⟩
        obtain rfl : n7 = tl.length := by
          obtain ⟨a, c, e, _⟩ := HF7.out.shape
          cases e
          rfl
        gi_wp2_with fail
        obtain ⟨W8, hW8⟩ : ∃ W8, W8 = (W7.alloc (.cells #[.slice a7 tl.length c7] 53)).alloc (.cells #[.int .i64 0] 3) := ⟨_, rfl⟩
        rw [← hW8]
        have hA8 : W8.heap[W7.heap.size]? = some (.cells #[.slice a7 tl.length c7] 53 (0, 0)) := by
          rw [hW8]
          exact (Below.heap_alloc _ _ _ (by simp)).trans (World.alloc_heap_new W7 _)
        have hK8 : W8.heap[W7.heap.size + 1]? = some (.cells #[.int .i64 0] 3 (0, 0)) := by
          rw [hW8]
          have := World.alloc_heap_new (W7.alloc (.cells #[.slice a7 tl.length c7] 53)) (.cells #[.int .i64 0] 3)
          rwa [World.size_alloc] at this
        have hz8 : W8.heap.size = W7.heap.size + 2 := by rw [hW8]; simp
        have hb78 : Below W7.heap.size W7 W8 := by rw [hW8]; exact ((Below.refl _ W7).alloc (Nat.le_refl _) _).alloc (by simp) _
        have hb57 : Below W5.heap.size W5 W7 := HB56.out.trans (HB67.out.mono HB56.out.size)
        have hb58 : Below W5.heap.size W5 W8 := hb57.trans (hb78.mono hb57.size)
        have hb08 : Below W0.heap.size W0 W8 := HB7.out.trans (hb78.mono HB7.out.size)
        have hz57 := hb57.size
        have hup : ∀ p u, W5.cell? p = some u → W8.cell? p = some u := fun p u h => (hb58.cell (World.block_lt_of_cell? W5 _ h)).trans h
        refine range_seq (n := n) hn1 rfl (enters_of Try.func53 (by kernel_rfl) rfl) (eaV (fun k => (tl.getD k (ByteArray.empty, [])).1) (fun k => ((tl.getD k (ByteArray.empty, [])).2.length : Int))) tl.length (fun _ => by rfl) _ (each1_gives (n - 1) (by omega) W8 (by omega) (hup _ _ HRZ.out.1) (HRZ.out.2.later hup))
          (fun k V => W8.grownBy V (some (W7.heap.size + 1)) ∧ V.heap[W7.heap.size + 1]? = some (.cells #[.int .i64 (k : Nat)] 3 (0, 0))) (fun _ _ => False)
          (fun k V V' h hb => ⟨grownBy_below h.1 hb, (hb.block _ (lt_of_block h.2)).trans h.2⟩) (fun c V V' h hb => h)
          (fun k V l o o' h hl _ _ => ⟨grownBy_put h.1 hl _, (World.putObj_heap_other (by omega)).trans h.2⟩) (fun c V l o o' h hl _ _ => h)
          (fun V V' l o o' h hl q1 q2 hr => (h hr).later (fun p u hp => putObj_cell q1 q2 hp)) ⟨⟨rfl, rfl, rfl, Nat.le_refl _, fun _ _ _ => rfl⟩, hK8⟩ ?round3 ?done3 ?stop3
        case stop3 =>
          rintro D9 c9 V _ hx _
          exact hx.elim
        case round3 =>
          rintro l k V hk hI hl ⟨rr, hlr⟩
          obtain ⟨g, q, m, kk, rfl, m1, m2, hm1, _⟩ := HF7.out.at_ hk
          have hx : tl.getD k (ByteArray.empty, []) = tl[k] := by simp [List.getD, List.getElem?_eq_getElem hk]
          generalize tl[k] = x at *
          have hv : eaV (fun k => (tl.getD k (ByteArray.empty, [])).1) (fun k => ((tl.getD k (ByteArray.empty, [])).2.length : Int)) k = #[.string x.1, .int .i64 x.2.length] := by
            unfold eaV
            dsimp only
            rw [hx]
          rw [hv]
          have hgz : g < W7.heap.size := World.block_lt_of_cell? W7 _ m1
          have hcell : ∀ (V1 : World) (b i : Nat) (u : Value), (∀ j, j < W8.heap.size → j ≠ W7.heap.size + 1 → V1.heap[j]? = W8.heap[j]?) → b < W7.heap.size + 1 → W8.cell? ⟨b, i, none⟩ = some u → V1.cell? ⟨b, i, none⟩ = some u := fun V1 b i u hV hb hc => (World.cell?_of_block (w := W8) (a := ⟨b, i, none⟩) (hV b (by omega) (by omega))).trans hc
          have hk' : ¬ ((tl.length : Int) ≤ (k : Int)) := by omega
          have hkt : (k : Int) < (tl.length : Int) := by omega
          have hse1 : (x.1.toList == x.1.toList) = true := by simp
          have hse2 : (((x.2.length : Nat) : Int) != ((x.2.length : Nat) : Int)) = false := by simp
          subst hm1
          have e1 : IntKind.i64.wrap ((k : Int) + 1) = (k : Int) + 1 := by rw [IntKind.wrap_i64]; omega
          have n1 := (hb78.cell (p := ⟨g, k * 2, none⟩) hgz).trans m1
          have n2 := (hb78.cell (p := ⟨g, k * 2 + 1, none⟩) hgz).trans m2
          have n3 : W8.cell? ⟨W7.heap.size, 0, none⟩ = some (.slice (some ⟨g, 0, none⟩) tl.length c7) := blk_cell hA8 rfl
          have HQ := hideP (And.intro hI (And.intro hl (And.intro hlr (And.intro hcell (And.intro hgz (And.intro n1 (And.intro n2 (And.intro n3 (And.intro hz8 hz57)))))))))
          clear hI hl hlr hcell hgz n1 n2 n3 hz8 hz57 hup hb78 hb57 hb58 hb08 hA8 hK8 m1 m2 hW8 hlen
          gi_wp2
          obtain ⟨hI, hl, hlr, hcell, hgz, n1, n2, n3, hz8, hz57⟩ := HQ.out
          refine ⟨KeepsFrom.refl _ _, fun r => ?_⟩
          have hV1 : ∀ j, j < W8.heap.size → j ≠ W7.heap.size + 1 → (V.putObj l (.loop r)).heap[j]? = W8.heap[j]? := fun j hj hne => (World.putObj_heap_other (by omega)).trans (hI.1.block j hj (fun e => hne (by cases e; rfl)))
          have hKV : (V.putObj l (.loop r)).heap[W7.heap.size + 1]? = some (.cells #[.int .i64 (k : Nat)] 3 (0, 0)) := (World.putObj_heap_other (by omega)).trans hI.2
          have hzV : (V.putObj l (.loop r)).heap.size = V.heap.size := by simp [World.putObj]
          obtain ⟨V1, hVe⟩ : ∃ V1, V1 = V.putObj l (.loop r) := ⟨_, rfl⟩
          rw [← hVe] at hV1 hKV hzV ⊢
          have d1 := hcell V1 _ _ _ hV1 (by omega) n1
          have d2 := hcell V1 _ _ _ hV1 (by omega) n2
          have d3 := hcell V1 _ _ _ hV1 (by omega) n3
          have d4 : V1.cell? ⟨W7.heap.size + 1, 0, none⟩ = some (.int .i64 (k : Nat)) := blk_cell hKV rfl
          have d5 : V1.frozen? ⟨W7.heap.size + 1, 0, none⟩ = false := blk_free hKV
          have HP := hideP (And.intro hV1 (And.intro hKV (And.intro hzV hVe)))
          clear hI hl hlr hcell hgz n1 n2 n3 hz8 hz57 hV1 hKV hzV hVe
          gi_wp2
          obtain ⟨hI, hl, hlr, hcell, hgz, n1, n2, n3, hz8, hz57⟩ := HQ.out
          obtain ⟨hV1, hKV, hzV, hVe⟩ := HP.out
          have hset : ∀ j, j ≠ W7.heap.size + 1 → (V1.setCell ⟨W7.heap.size + 1, 0, none⟩ (.int .i64 ((k : Int) + 1))).heap[j]? = V1.heap[j]? := fun j hj => Below.heap_setCell _ _ _ j hj
          have hss : (V1.setCell ⟨W7.heap.size + 1, 0, none⟩ (.int .i64 ((k : Int) + 1))).heap.size = V1.heap.size := by simp [World.setCell]
          refine ⟨⟨Nat.le_of_eq hss.symm, fun b o hb h0 _ => (hset b (by omega)).trans h0⟩, fun hr => ?_, ⟨?_, ?_, ?_, ?_, fun j hj hne => ?_⟩, ?_⟩
          · refine hr.upd HRZ.out.2 (fun p u hp hc => ?_)
            have hpb : p.block ≠ W7.heap.size + 1 := by omega
            have hpl : p.block ≠ l := by omega
            rw [World.cell?_of_block (hset p.block hpb), hVe, World.cell?_of_block (World.putObj_heap_other hpl)]
            exact hc
          · show V1.os = W8.os
            rw [hVe]; exact hI.1.os
          · show V1.tape = W8.tape
            rw [hVe]; exact hI.1.tape
          · show V1.output = W8.output
            rw [hVe]; exact hI.1.output
          · have := hI.1.size
            omega
          · exact (hset j (fun e => hne (by rw [e]))).trans (hV1 j hj (fun e => hne (by rw [e])))
          · have := blk_set (o := 0) hKV (.int .i64 ((k : Int) + 1))
            simpa using this
        case done3 =>
          rintro D2 V hD2 hI hK2
          obtain ⟨hgr, hKV⟩ := hI
          have hb0W := HBW.out
          have hR0 : W8.heap[w.heap.size]? = some (.cells #[.bool false] 4 (0, 0)) := (hb08.block _ (lt_of_block HB0.out)).trans HB0.out
          have hzw := hb0W.size
          have hz08 := hb08.size
          have hz07 := HB7.out.size
          have hwlt := lt_of_block HB0.out
          have hRV := (hgr.block _ (lt_of_block hR0) (fun e => by simp only [Option.some.injEq] at e; omega)).trans hR0
          have hAV := (hgr.block _ (lt_of_block hA8) (fun e => by simp only [Option.some.injEq] at e; omega)).trans hA8
          have d1 : V.cell? ⟨W7.heap.size + 1, 0, none⟩ = some (.int .i64 (tl.length : Nat)) := blk_cell hKV rfl
          have d2 : V.cell? ⟨W7.heap.size, 0, none⟩ = some (.slice a7 tl.length c7) := blk_cell hAV rfl
          have d3 : V.cell? ⟨w.heap.size, 0, none⟩ = some (.bool false) := blk_cell hRV rfl
          have d4 : V.frozen? ⟨w.heap.size, 0, none⟩ = false := blk_free hRV
          have hlt1 := lt_of_block HK1.out
          have hk61 : W8.heap[D1]? = some (.deferred (some [])) := ((HB67.out.trans (hb78.mono HB67.out.size)).block D1 hlt1).trans HK1.out
          have hkD : V.heap[D1]? = some (.deferred (some [])) := (hgr.block D1 (lt_of_block hk61) (fun e => by simp only [Option.some.injEq] at e; rw [e, hK8] at hk61; cases hk61)).trans hk61
          have hbwV : Below w.heap.size w V := (hb0W.trans (hb08.mono hzw)).grown hgr (Nat.le_trans hzw hz08) (fun k e => by cases e; omega)
          have hne12 : D1 ≠ D2 := fun e => by have := lt_of_block hk61; omega
          have hw1 : D1 ≠ w.heap.size := fun e => by rw [e, hR0] at hk61; cases hk61
          have hw2 : D2 ≠ w.heap.size := by omega
          have hq : (((tl.length : Nat) : Int) == ((tl.length : Nat) : Int)) = true := by simp
          have HF := hideP (And.intro hRV (And.intro hkD (And.intro hK2 (And.intro hbwV (And.intro hne12 (And.intro hw1 (And.intro hw2 (And.intro hzw (And.intro hD2 (And.intro hz08 HD1.out))))))))))
          have HZ05 := hideP HB5.out.size
          clear hRV hAV hKV hgr hkD hK2 hbwV hne12 hw1 hw2 hk61 hlt1 hR0 hb0W hzw hz08 hz07 hwlt hup hb78 hb57 hb58 hb08 hA8 hK8 hz8 hz57 hD2 hW8 hlen
          gi_wp2
          clear d1 d2 d3 d4
          obtain ⟨hRV, hkD, hK2, hbwV, hne12, hw1, hw2, hzw, hD2, hz08, hd15⟩ := HF.out
          have hz05 := HZ05.out
          have k1 : (V.setCell ⟨w.heap.size, 0, none⟩ (.bool true)).heap[D2]? = some (.deferred (some [])) := (Below.heap_setCell V _ _ _ hw2).trans hK2
          have k0 : (V.setCell ⟨w.heap.size, 0, none⟩ (.bool true)).heap[D1]? = some (.deferred (some [])) := (Below.heap_setCell V _ _ _ hw1).trans hkD
          have hre := blk_set (o := 0) hRV (.bool true)
          have hbe : Below w.heap.size w (V.setCell ⟨w.heap.size, 0, none⟩ (.bool true)) := hbwV.setCell (p := ⟨w.heap.size, 0, none⟩) (Nat.le_refl _) _
          generalize V.setCell ⟨w.heap.size, 0, none⟩ (.bool true) = X at hbe hre k1 k0 ⊢
          have k0' : (X.putObj D2 (.deferred none)).heap[D1]? = some (.deferred (some [])) := (World.putObj_heap_other hne12).trans k0
          have e1 : ((X.putObj D2 (.deferred none)).putObj D1 (.deferred none)).heap[w.heap.size]? = some (.cells #[.bool true] 4 (0, 0)) := (World.putObj_heap_other (Ne.symm hw1)).trans ((World.putObj_heap_other (Ne.symm hw2)).trans hre)
          have ec : ((X.putObj D2 (.deferred none)).putObj D1 (.deferred none)).cell? ⟨w.heap.size, 0, none⟩ = some (.bool true) := blk_cell e1 rfl
          have hbf : Below w.heap.size w ((X.putObj D2 (.deferred none)).putObj D1 (.deferred none)) := (hbe.trans (below_putObj _ (by omega))).trans (below_putObj _ (by omega))
          refine ⟨by simp, .inl ⟨_, _, rfl, run_takeDeferred k1, ⟨by simp, .inl ⟨_, _, rfl, run_takeDeferred k0', ?_⟩⟩⟩⟩
          exact ⟨.bool true, by simp [results, Try.results19, go_sem, ec], rfl, hbf⟩

end Go.Proofs.Ytcceaokldphfgaa
