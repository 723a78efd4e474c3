/- YtcceaokldphfgaaDiskDoesC42 -/
import Derived.Test.YtcceaokldphfgaaDiskDoesC41
namespace Go.Proofs.Ytcceaokldphfgaa
open Go.RowKit Go.Shelf

/-- Where put is: so many files ahead of the new one. -/
def PutI (w : World) (role : DRole) (M : Nat) (a : ASt) (rs : List DRep) (f : DRep) (kv lv uv : Value) (g c : Nat) (i : Nat) (wr : World) : Prop :=
  ∃ role' A B, A ++ B = rs ∧ A.length = i ∧ DocOK wr role' M { a with fs := (A ++ f :: B).map (·.a) } (A ++ f :: B) (.slice (some ⟨g, 0, none⟩) (rs.length + 1) c) kv lv uv ∧ DStp role role' w wr ∧ ∀ q ∈ B, ¬ cmpS q.a.name f.a.name < 0

theorem less_cmp : ∀ x y : List UInt8, Op.bytesLess x y = decide (Lib.compareBytes x y < 0)
  | [], [] => by simp [Op.bytesLess, Lib.compareBytes]
  | [], _ :: _ => by simp [Op.bytesLess, Lib.compareBytes]
  | _ :: _, [] => by simp [Op.bytesLess, Lib.compareBytes]
  | a :: x, b :: y => by
    have ih := less_cmp x y
    unfold Op.bytesLess Lib.compareBytes
    by_cases h1 : a < b
    · simp [h1]
    · by_cases h2 : b < a
      · have h3 : ¬ a = b := fun e => by rw [e] at h2; exact absurd h2 (UInt8.lt_irrefl _)
        simp [h1, h2, h3]
      · have h3 : a = b := UInt8.le_antisymm (UInt8.not_lt.1 h2) (UInt8.not_lt.1 h1)
        simp [h3, ih]

theorem less_names (x y : ByteArray) : Op.bytesLess x.toList y.toList = decide (cmpS x y < 0) := by
  rw [less_cmp, ByteArray.toList_eq, ByteArray.toList_eq]
  rfl

/-- Where put ends. -/
theorem PutI.done {w wr : World} {role role1 : DRole} {M g c : Nat} {a : ASt} {rs A B : List DRep} {f : DRep} {kv lv uv : Value} (hfs : a.fs = rs.map (·.a)) (hAB : A ++ B = rs) (hD : DocOK wr role1 M { a with fs := (A ++ f :: B).map (·.a) } (A ++ f :: B) (.slice (some ⟨g, 0, none⟩) (rs.length + 1) c) kv lv uv) (hS : DStp role role1 w wr) (hB : ∀ q ∈ B, ¬ cmpS q.a.name f.a.name < 0) (hA : ∀ q ∈ A, cmpS q.a.name f.a.name < 0) : DocTo w role M { a with fs := insA a.fs f.a } kv lv uv wr := by
  have e : insA a.fs f.a = (A ++ f :: B).map (·.a) := by
    rw [hfs, ← hAB, List.map_append, ins_split (fun x hx => by obtain ⟨q, hq, rfl⟩ := List.mem_map.1 hx; exact hA q hq) (fun x hx => by obtain ⟨q, hq, rfl⟩ := List.mem_map.1 hx; exact hB q hq)]
    simp
  rw [e]
  exact ⟨role1, _, _, hD, hS⟩

set_option maxHeartbeats 2000000 in
set_option maxRecDepth 100000 in
theorem rput_any {w : World} {role : DRole} {M : Nat} {a : ASt} {rs : List DRep} {f : DRep} {fv kv lv uv : Value} (h : DocOK w role M a rs fv kv lv uv) (hF : DFileOK w role f) (hap : ∀ q ∈ rs, ∀ k, f.cv.ownBlock = some k → q.cv.ownBlock ≠ some k) (hn : rs.length ≤ 999) (hs : SortedA a.fs) (hnm : ∀ q ∈ rs, q.a.name ≠ f.a.name) :
    Calls Try.prog 68 #[.pointer (some ⟨M, 0, none⟩), .agg #[.string f.a.name, f.sv, f.cv]] w fun e w' => e = .returned (.tuple #[]) ∧ Hid (DocTo w role M { a with fs := insA a.fs f.a } kv lv uv w') := by
  obtain ⟨W0, hW0⟩ : ∃ W0, W0 = w.alloc (.cells #[.string f.a.name, f.sv, f.cv] 90) := ⟨_, rfl⟩
  have hal : Below w.heap.size w W0 := by rw [hW0]; exact (Below.refl _ w).alloc (Nat.le_refl _) _
  have hB0 : W0.heap[w.heap.size]? = some (.cells #[.string f.a.name, f.sv, f.cv] 90 (0, 0)) := by rw [hW0]; exact World.alloc_heap_new w _
  have hz0 : w.heap.size < W0.heap.size := (Array.getElem?_eq_some_iff.1 hB0).1
  have hbd : Below w.heap.size w W0.drew := hal.drew
  have h0 := h.still hbd
  have hF0 : DFileOK W0.drew role f := hF.kept (fun k e hk => ⟨hbd.block k hk, e⟩) (fun k e => ⟨hbd.block k (hF.row.lt k e).2, hF.rowR k e⟩)
  obtain ⟨g, c, w7, HRN, hk7, HST⟩ := h0.push hF0 hap (by omega)
  have hMr := h.roleM
  have hMz := h.dom M (by omega)
  have m5 : w.cell? ⟨M, 5, none⟩ = some fv := blk_cell (o := 5) h.str rfl
  have m50 : W0.cell? ⟨M, 5, none⟩ = some fv := (hal.cell (p := ⟨M, 5, none⟩) hMz).trans m5
  have hM7 : w7.heap[M]? = some (.cells (docC a fv kv lv uv) 41 (0, 0)) := (hk7 M (by omega) (Nat.lt_of_lt_of_le hMz hal.size)).trans ((hal.block M hMz).trans h.str)
  have hMW : M < W0.heap.size := Nat.lt_of_lt_of_le hMz hal.size
  have m57 : w7.cell? ⟨M, 5, none⟩ = some fv := blk_cell (o := 5) hM7 rfl
  have hs5 : (w7.setCell ⟨M, 5, none⟩ (.slice (some ⟨g, 0, none⟩) (rs.length + 1) c)).cell? ⟨M, 5, none⟩ = some (.slice (some ⟨g, 0, none⟩) (rs.length + 1) c) := blk_cell (blk_set (o := 5) hM7 _) rfl
  have f57 : w7.frozen? ⟨M, 5, none⟩ = false := blk_free hM7
  have b0 : W0.cell? ⟨w.heap.size, 0, none⟩ = some (.string f.a.name) := blk_cell hB0 rfl
  have b1 : W0.cell? ⟨w.heap.size, 1, none⟩ = some f.sv := blk_cell hB0 rfl
  have b2 : W0.cell? ⟨w.heap.size, 2, none⟩ = some f.cv := blk_cell hB0 rfl
  obtain ⟨W5, hW5⟩ : ∃ W5, W5 = w7.setCell ⟨M, 5, none⟩ (.slice (some ⟨g, 0, none⟩) (rs.length + 1) c) := ⟨_, rfl⟩
  have m55 : W5.cell? ⟨M, 5, none⟩ = some (.slice (some ⟨g, 0, none⟩) (rs.length + 1) c) := by rw [hW5]; exact hs5
  have t0 : IntKind.i64.wrap (((rs.length + 1 : Nat) : Int) - 1) = (rs.length : Int) := by rw [IntKind.wrap_i64]; omega
  have t0' : IntKind.i64.wrap ((rs.length : Int) + 1 - 1) = (rs.length : Int) := by rw [IntKind.wrap_i64]; omega
  have HI0 : Hid (PutI w role M a rs f kv lv uv g c rs.length W5) := by
    obtain ⟨role', g1, g2⟩ := HST.out
    rw [← hW5] at g1 g2
    exact ⟨role', rs, [], List.append_nil _, rfl, g1, ⟨g2.os.trans hbd.os, g2.tape.trans hbd.tape, g2.output.trans hbd.output, Nat.le_trans hbd.size g2.size, fun k hk => g2.ext k (Nat.lt_of_lt_of_le hk hbd.size), fun k hk hr => (g2.keep k (Nat.lt_of_lt_of_le hk hbd.size) hr).trans (hbd.block k hk)⟩, fun q hq => by simp at hq⟩
  obtain ⟨qf, cf, ef⟩ := h.fvS
  obtain ⟨x1, x2, x3, ex⟩ : ∃ q n c, f.sv = .slice q n c := by
    obtain ⟨q, c, e, _⟩ := own_slice hF.safe.1
    exact ⟨_, _, _, e⟩
  obtain ⟨y1, y2, ey, _⟩ := hF.crow
  have HW0 := hideP hW0
  have HW5 := hideP hW5
  have HG := hideP (And.intro h.fs (And.intro hs hnm))
  rw [ef] at m5 m50 m57 HRN
  rw [ex] at b1 HRN HW0 ⊢
  rw [ey] at b2 HRN HW0 ⊢
  generalize hnl : rs.length = nl at *
  have HNL := hideP hnl
  generalize hnc : f.a.chs.length = nc at *
  generalize hnn : f.a.name = nm at b0 HRN HW0 ⊢
  have HNN := hideP hnn
  clear h hF hap hs hnm hW0 hal hB0 hz0 hbd h0 hF0 hk7 HST hM7 hW5 hs5 hnl hnc hnn m5 ef ex ey hMr
  go_enter Try.func68, Try.ntmps68
  go_wp2_with fail
  rw [← HW0.out]
  refine wp_region_heldS (S := fun _ => True) (by kernel_rfl) trivial (fun _ => ?_)
  refine wpAnyH_takeL (i := 0) (v := ?_) rfl (by kernel_rfl) (by kernel_rfl) (by kernel_rfl) (fun _ _ _ h => h) (Or.inl ⟨by kernel_rfl, ?_⟩) trivial ?_
  rotate_left
  · intro V _
    go_simp
    (try with_reducible rfl)
  simp only [put_list, List.set_cons_succ, List.set_cons_zero]
  refine wpAnyH_takeL (i := 1) (v := ?_) rfl (by kernel_rfl) (by kernel_rfl) (by kernel_rfl) (fun _ _ _ h => h) (Or.inl ⟨by kernel_rfl, ?_⟩) trivial ?_
  rotate_left
  · intro V _
    go_simp
    (try with_reducible rfl)
  simp only [put_list, List.set_cons_succ, List.set_cons_zero]
  refine wpAnyH_takeL (i := 2) (v := ?_) rfl (by kernel_rfl) (by kernel_rfl) (by kernel_rfl) (fun _ _ _ h => h) (Or.inl ⟨by kernel_rfl, ?_⟩) trivial ?_
  rotate_left
  · intro V _
    go_simp
    (try with_reducible rfl)
  simp only [put_list, List.set_cons_succ, List.set_cons_zero]
  refine wpAnyH_takeL (i := 3) (v := ?_) rfl (by kernel_rfl) (by kernel_rfl) (by kernel_rfl) (fun _ _ _ h => h) (Or.inl ⟨by kernel_rfl, ?_⟩) trivial ?_
  rotate_left
  · intro V _
    go_simp
    (try with_reducible rfl)
  simp only [put_list, List.set_cons_succ, List.set_cons_zero]
  refine wpAnyH_ready (rs := [4, 5]) (by kernel_rfl) (by simp) (AllReadyH.cons rfl (fun K hK => ?_) (AllReadyH.cons rfl (fun K hK => ?_) (AllReadyH.nil)))
  · go_simp
    refine hK.out _ _ trivial (fun _ => ?_)
    clear hK K
    refine wpAnyH_ready (rs := [5]) (by kernel_rfl) (by simp) (AllReadyH.cons rfl (fun K hK => ?_) (AllReadyH.nil))
    go_simp
    refine hK.out _ _ trivial (fun _ => ?_)
    clear hK K
    refine wpAnyH_ready (rs := [6]) (by kernel_rfl) (by simp) (AllReadyH.cons rfl (fun K hK => ?_) (AllReadyH.nil))
    go_simp
    refine hK.out _ _ trivial (fun _ => ?_)
    clear hK K
    refine wpAnyH_ready (rs := [7]) (by kernel_rfl) (by simp) (AllReadyH.cons rfl (fun K hK => ?_) (AllReadyH.nil))
    rw [if_pos (by rfl)]
    refine Lib.wp_append_run _ _ _ 39 39 rfl _ _ rfl rfl _ _ HRN.out ?_
    go_simp
    refine hK.out _ _ trivial (fun _ => ?_)
    clear hK K
    refine wpAnyH_takeL (i := 8) (v := ?_) rfl (by kernel_rfl) (by kernel_rfl) (by kernel_rfl) (fun _ _ _ h => h) (Or.inl ⟨by kernel_rfl, ?_⟩) trivial ?_
    rotate_left
    · intro V _
      go_simp
      (try with_reducible rfl)
    simp only [put_list, List.set_cons_succ, List.set_cons_zero]
    refine wpAnyH_takeL (i := 9) (v := ?_) rfl (by kernel_rfl) (by kernel_rfl) (by kernel_rfl) (fun _ _ _ h => h) (Or.inl ⟨by kernel_rfl, ?_⟩) trivial ?_
    rotate_left
    · intro V _
      go_simp
      (try with_reducible rfl)
    simp only [put_list, List.set_cons_succ, List.set_cons_zero]
    refine wpAnyH_ready (rs := [10]) (by kernel_rfl) (by simp) (AllReadyH.cons rfl (fun K hK => ?_) (AllReadyH.nil))
    go_simp
    refine hK.out _ _ trivial (fun _ => ?_)
    clear hK K
    refine wpAnyH_done (by kernel_rfl) ?_ _
    rw [← HW5.out]
    clear HRN HW0 HW5 m50 m57 f57 b0 b1 b2 hMW
    go_wp2
    clear m55
    go_loopw [4] (fun i wr => ∃ j : Nat, j ≤ nl ∧ i = .int .i64 j ∧ Hid (PutI w role M a rs f kv lv uv g c j wr)) (fun i _ => (intOf i).toNat)
    case atStart => exact ⟨nl, Nat.le_refl _, rfl, HI0⟩
    case round =>
      clear HI0
      obtain ⟨j, hj, rfl, HP⟩ := hrel
      cases j with
      | zero =>
        have HE : Hid (DocTo w role M { a with fs := insA a.fs f.a } kv lv uv wr) := by
          obtain ⟨role1, A, B, hAB, hA, hD, hS, hB⟩ := HP.out
          exact PutI.done HG.out.1 hAB hD hS hB (fun q hq => by rw [List.eq_nil_of_length_eq_zero hA] at hq; simp at hq)
        clear HP
        go_wp2_with fail
        go_quiet (fail)
        go_wp2
        go_end0
        refine ⟨rfl, ?_⟩
        obtain ⟨role9, rs9, fv9, u1, u2⟩ := HE.out
        exact ⟨role9, rs9, fv9, u1.still (below_drewN (Below.refl _ _) _), u2.trans (DStp.still (below_drewN (Below.refl _ _) _))⟩
      | succ j =>
        obtain ⟨role1, A, B, hAB, hA, hD, hS, hB⟩ := HP.out
        obtain ⟨A', q, rfl⟩ : ∃ A' q, A = A' ++ [q] := ⟨A.dropLast, A.getLast (by intro e; rw [e] at hA; simp at hA), (List.dropLast_concat_getLast _).symm⟩
        have hA' : A'.length = j := by simpa using hA
        have e1 : A' ++ [q] ++ f :: B = A' ++ q :: f :: B := by simp
        rw [e1] at hD
        have hq : (A' ++ q :: f :: B)[j]? = some q := by rw [← hA']; simp
        have hf : (A' ++ q :: f :: B)[j + 1]? = some f := by rw [← hA', List.getElem?_append_right (by omega)]; simp
        obtain ⟨g1, k1, eg, _, _, _, p0, p1, p2, pf⟩ := hD.file hq
        obtain ⟨g2, k2, eg2, _, _, _, r0, r1, r2, _⟩ := hD.file hf
        have e2 : g1 = g := by simp only [Value.slice.injEq, Option.some.injEq, Addr.mk.injEq] at eg; exact eg.1.1.symm
        have e3 : g2 = g := by simp only [Value.slice.injEq, Option.some.injEq, Addr.mk.injEq] at eg2; exact eg2.1.1.symm
        subst e2
        subst e3
        have m5 : wr.cell? ⟨M, 5, none⟩ = some (.slice (some ⟨g2, 0, none⟩) (nl + 1) c) := by rw [← HNL.out]; exact blk_cell (o := 5) hD.str rfl
        have t1 : IntKind.i64.wrap (((j + 1 : Nat) : Int) - 1) = (j : Int) := by rw [IntKind.wrap_i64]; omega
        have t2 : IntKind.i64.wrap ((j : Int) + 1 - 1) = (j : Int) := by rw [IntKind.wrap_i64]; omega
        have HD := hideP (And.intro hD (And.intro hS (And.intro hB (And.intro hAB hA'))))
        have hqm : q ∈ rs := by rw [← hAB]; simp
        have hqn := HG.out.2.2 q hqm
        rw [HNN.out] at r0 hqn
        have HPF := hideP pf
        have pfa := fun o => pf o
        have hne : (q.a.name.toList == nm.toList) = false := by
          rw [beq_eq_false_iff_ne]
          intro e
          exact hqn (by
            rw [ByteArray.toList_eq, ByteArray.toList_eq] at e
            have e2 : q.a.name.data = nm.data := Array.toList_inj.1 e
            cases hh : q.a.name; cases hh2 : nm; rw [hh, hh2] at e2; cases e2; rfl)
        obtain ⟨u1, u2, u3, eu⟩ : ∃ q' n c, q.sv = .slice q' n c := by
          obtain ⟨q', c, e, _⟩ := own_slice (hD.files q (by simp)).safe.1
          exact ⟨_, _, _, e⟩
        obtain ⟨v1, v2, ev, _⟩ := (hD.files q (by simp)).crow
        obtain ⟨u4, u5, u6, eu4⟩ : ∃ q' n c, f.sv = .slice q' n c := by
          obtain ⟨q', c, e, _⟩ := own_slice (hD.files f (by simp)).safe.1
          exact ⟨_, _, _, e⟩
        obtain ⟨v4, v5, ev4, _⟩ := (hD.files f (by simp)).crow
        by_cases hlt : cmpS q.a.name nm < 0
        · have hl1 : Op.bytesLess q.a.name.toList nm.toList = true := by rw [less_names]; exact decide_eq_true hlt
          have HE : Hid (DocTo w role M { a with fs := insA a.fs f.a } kv lv uv wr) := by
            rw [← e1] at hD
            refine PutI.done HG.out.1 hAB hD hS hB (fun x hx => ?_)
            have hsr := HG.out.2.1
            rw [HG.out.1, ← hAB] at hsr
            simp only [List.mem_append, List.mem_singleton] at hx
            rw [HNN.out]
            rcases hx with hx | rfl
            · have h9 : cmpS x.a.name q.a.name < 0 := by
                have h8 := hsr
                unfold SortedA at h8
                rw [List.map_append, List.map_append] at h8
                have h7 := (List.pairwise_append.1 (List.pairwise_append.1 h8).1).2.2
                exact h7 x.a (List.mem_map_of_mem hx) q.a (by simp)
              exact cmpS_trans h9 hlt
            · exact hlt
          generalize q.a.name = qn at *
          clear hD hS hB hAB hq hf pf eg eg2 HP hA e1 HD HPF pfa p1 p2 r1 r2 hqm hqn hlt
          go_wp2_with fail
          go_quiet (fail)
          go_wp2
          go_end0
          refine ⟨rfl, ?_⟩
          obtain ⟨role9, rs9, fv9, w1, w2⟩ := HE.out
          exact ⟨role9, rs9, fv9, w1.still (below_drewN (Below.refl _ _) _), w2.trans (DStp.still (below_drewN (Below.refl _ _) _))⟩
        · have hl1 : Op.bytesLess q.a.name.toList nm.toList = false := by rw [less_names]; exact decide_eq_false hlt
          have HSW : Hid (∀ V, Below wr.heap.size wr V → PutI w role M a rs f kv lv uv g2 c j ((((((V.setCell ⟨g2, j * 3, none⟩ (.string nm)).setCell ⟨g2, j * 3 + 1, none⟩ f.sv).setCell ⟨g2, j * 3 + 2, none⟩ f.cv).setCell ⟨g2, (j + 1) * 3, none⟩ (.string q.a.name)).setCell ⟨g2, (j + 1) * 3 + 1, none⟩ q.sv).setCell ⟨g2, (j + 1) * 3 + 2, none⟩ q.cv)) := fun V hbV => by
            have hlen9 : (A' ++ q :: f :: B).length = rs.length + 1 := by rw [← hAB]; simp; omega
            obtain ⟨k9, k8⟩ := (hD.still hbV).swap (g := g2) (cap := c) (by rw [hlen9])
            rw [hA', HNN.out] at k9 k8
            refine ⟨role1, A', q :: B, by rw [← hAB]; simp, hA', k9, (hS.trans (DStp.still hbV)).trans k8, fun x hx => ?_⟩
            simp only [List.mem_cons] at hx
            rcases hx with rfl | hx
            · rw [HNN.out]; exact hlt
            · exact hB x hx
          have g0 := pf (j * 3)
          have g1' := pf (j * 3 + 1)
          have g2' := pf (j * 3 + 2)
          have g3 := pf ((j + 1) * 3)
          have g4 := pf ((j + 1) * 3 + 1)
          have g5 := pf ((j + 1) * 3 + 2)
          have hj1 : j < nl + 1 := by omega
          have hj2 : j + 1 < nl + 1 := by omega
          rw [eu] at p1 HSW
          rw [ev] at p2 HSW
          rw [eu4] at r1 HSW
          rw [ev4] at r2 HSW
          generalize q.a.chs.length = ncq at *
          generalize f.a.chs.length = ncf at *
          generalize q.a.name = qn at *
          clear hD hS hB hAB hq hf pf eg eg2 HP hA e1 HD HPF pfa hqm hqn hlt eu ev eu4 ev4
          go_wp2_with fail
          go_quiet (fail)
          go_wp2_with fail
          go_region
          go_wp2
          exact ⟨⟨j, by omega, rfl, HSW.out _ (below_drewN (Below.refl _ _) _)⟩, by simp [intOf]⟩
  · go_simp
    refine hK.out _ _ trivial (fun _ => ?_)
    clear hK K
    refine wpAnyH_ready (rs := [4, 6]) (by kernel_rfl) (by simp) (AllReadyH.cons rfl (fun K hK => ?_) (AllReadyH.cons rfl (fun K hK => ?_) (AllReadyH.nil)))
    · go_simp
      refine hK.out _ _ trivial (fun _ => ?_)
      clear hK K
      refine wpAnyH_ready (rs := [6]) (by kernel_rfl) (by simp) (AllReadyH.cons rfl (fun K hK => ?_) (AllReadyH.nil))
      go_simp
      refine hK.out _ _ trivial (fun _ => ?_)
      clear hK K
      refine wpAnyH_ready (rs := [7]) (by kernel_rfl) (by simp) (AllReadyH.cons rfl (fun K hK => ?_) (AllReadyH.nil))
      rw [if_pos (by rfl)]
      refine Lib.wp_append_run _ _ _ 39 39 rfl _ _ rfl rfl _ _ HRN.out ?_
      go_simp
      refine hK.out _ _ trivial (fun _ => ?_)
      clear hK K
      refine wpAnyH_takeL (i := 8) (v := ?_) rfl (by kernel_rfl) (by kernel_rfl) (by kernel_rfl) (fun _ _ _ h => h) (Or.inl ⟨by kernel_rfl, ?_⟩) trivial ?_
      rotate_left
      · intro V _
        go_simp
        (try with_reducible rfl)
      simp only [put_list, List.set_cons_succ, List.set_cons_zero]
      refine wpAnyH_takeL (i := 9) (v := ?_) rfl (by kernel_rfl) (by kernel_rfl) (by kernel_rfl) (fun _ _ _ h => h) (Or.inl ⟨by kernel_rfl, ?_⟩) trivial ?_
      rotate_left
      · intro V _
        go_simp
        (try with_reducible rfl)
      simp only [put_list, List.set_cons_succ, List.set_cons_zero]
      refine wpAnyH_ready (rs := [10]) (by kernel_rfl) (by simp) (AllReadyH.cons rfl (fun K hK => ?_) (AllReadyH.nil))
      go_simp
      refine hK.out _ _ trivial (fun _ => ?_)
      clear hK K
      refine wpAnyH_done (by kernel_rfl) ?_ _
      rw [← HW5.out]
      clear HRN HW0 HW5 m50 m57 f57 b0 b1 b2 hMW
      go_wp2
      clear m55
      go_loopw [4] (fun i wr => ∃ j : Nat, j ≤ nl ∧ i = .int .i64 j ∧ Hid (PutI w role M a rs f kv lv uv g c j wr)) (fun i _ => (intOf i).toNat)
      case atStart => exact ⟨nl, Nat.le_refl _, rfl, HI0⟩
      case round =>
        clear HI0
        obtain ⟨j, hj, rfl, HP⟩ := hrel
        cases j with
        | zero =>
          have HE : Hid (DocTo w role M { a with fs := insA a.fs f.a } kv lv uv wr) := by
            obtain ⟨role1, A, B, hAB, hA, hD, hS, hB⟩ := HP.out
            exact PutI.done HG.out.1 hAB hD hS hB (fun q hq => by rw [List.eq_nil_of_length_eq_zero hA] at hq; simp at hq)
          clear HP
          go_wp2_with fail
          go_quiet (fail)
          go_wp2
          go_end0
          refine ⟨rfl, ?_⟩
          obtain ⟨role9, rs9, fv9, u1, u2⟩ := HE.out
          exact ⟨role9, rs9, fv9, u1.still (below_drewN (Below.refl _ _) _), u2.trans (DStp.still (below_drewN (Below.refl _ _) _))⟩
        | succ j =>
          obtain ⟨role1, A, B, hAB, hA, hD, hS, hB⟩ := HP.out
          obtain ⟨A', q, rfl⟩ : ∃ A' q, A = A' ++ [q] := ⟨A.dropLast, A.getLast (by intro e; rw [e] at hA; simp at hA), (List.dropLast_concat_getLast _).symm⟩
          have hA' : A'.length = j := by simpa using hA
          have e1 : A' ++ [q] ++ f :: B = A' ++ q :: f :: B := by simp
          rw [e1] at hD
          have hq : (A' ++ q :: f :: B)[j]? = some q := by rw [← hA']; simp
          have hf : (A' ++ q :: f :: B)[j + 1]? = some f := by rw [← hA', List.getElem?_append_right (by omega)]; simp
          obtain ⟨g1, k1, eg, _, _, _, p0, p1, p2, pf⟩ := hD.file hq
          obtain ⟨g2, k2, eg2, _, _, _, r0, r1, r2, _⟩ := hD.file hf
          have e2 : g1 = g := by simp only [Value.slice.injEq, Option.some.injEq, Addr.mk.injEq] at eg; exact eg.1.1.symm
          have e3 : g2 = g := by simp only [Value.slice.injEq, Option.some.injEq, Addr.mk.injEq] at eg2; exact eg2.1.1.symm
          subst e2
          subst e3
          have m5 : wr.cell? ⟨M, 5, none⟩ = some (.slice (some ⟨g2, 0, none⟩) (nl + 1) c) := by rw [← HNL.out]; exact blk_cell (o := 5) hD.str rfl
          have t1 : IntKind.i64.wrap (((j + 1 : Nat) : Int) - 1) = (j : Int) := by rw [IntKind.wrap_i64]; omega
          have t2 : IntKind.i64.wrap ((j : Int) + 1 - 1) = (j : Int) := by rw [IntKind.wrap_i64]; omega
          have HD := hideP (And.intro hD (And.intro hS (And.intro hB (And.intro hAB hA'))))
          have hqm : q ∈ rs := by rw [← hAB]; simp
          have hqn := HG.out.2.2 q hqm
          rw [HNN.out] at r0 hqn
          have HPF := hideP pf
          have pfa := fun o => pf o
          have hne : (q.a.name.toList == nm.toList) = false := by
            rw [beq_eq_false_iff_ne]
            intro e
            exact hqn (by
              rw [ByteArray.toList_eq, ByteArray.toList_eq] at e
              have e2 : q.a.name.data = nm.data := Array.toList_inj.1 e
              cases hh : q.a.name; cases hh2 : nm; rw [hh, hh2] at e2; cases e2; rfl)
          obtain ⟨u1, u2, u3, eu⟩ : ∃ q' n c, q.sv = .slice q' n c := by
            obtain ⟨q', c, e, _⟩ := own_slice (hD.files q (by simp)).safe.1
            exact ⟨_, _, _, e⟩
          obtain ⟨v1, v2, ev, _⟩ := (hD.files q (by simp)).crow
          obtain ⟨u4, u5, u6, eu4⟩ : ∃ q' n c, f.sv = .slice q' n c := by
            obtain ⟨q', c, e, _⟩ := own_slice (hD.files f (by simp)).safe.1
            exact ⟨_, _, _, e⟩
          obtain ⟨v4, v5, ev4, _⟩ := (hD.files f (by simp)).crow
          by_cases hlt : cmpS q.a.name nm < 0
          · have hl1 : Op.bytesLess q.a.name.toList nm.toList = true := by rw [less_names]; exact decide_eq_true hlt
            have HE : Hid (DocTo w role M { a with fs := insA a.fs f.a } kv lv uv wr) := by
              rw [← e1] at hD
              refine PutI.done HG.out.1 hAB hD hS hB (fun x hx => ?_)
              have hsr := HG.out.2.1
              rw [HG.out.1, ← hAB] at hsr
              simp only [List.mem_append, List.mem_singleton] at hx
              rw [HNN.out]
              rcases hx with hx | rfl
              · have h9 : cmpS x.a.name q.a.name < 0 := by
                  have h8 := hsr
                  unfold SortedA at h8
                  rw [List.map_append, List.map_append] at h8
                  have h7 := (List.pairwise_append.1 (List.pairwise_append.1 h8).1).2.2
                  exact h7 x.a (List.mem_map_of_mem hx) q.a (by simp)
                exact cmpS_trans h9 hlt
              · exact hlt
            generalize q.a.name = qn at *
            clear hD hS hB hAB hq hf pf eg eg2 HP hA e1 HD HPF pfa p1 p2 r1 r2 hqm hqn hlt
            go_wp2_with fail
            go_quiet (fail)
            go_wp2
            go_end0
            refine ⟨rfl, ?_⟩
            obtain ⟨role9, rs9, fv9, w1, w2⟩ := HE.out
            exact ⟨role9, rs9, fv9, w1.still (below_drewN (Below.refl _ _) _), w2.trans (DStp.still (below_drewN (Below.refl _ _) _))⟩
          · have hl1 : Op.bytesLess q.a.name.toList nm.toList = false := by rw [less_names]; exact decide_eq_false hlt
            have HSW : Hid (∀ V, Below wr.heap.size wr V → PutI w role M a rs f kv lv uv g2 c j ((((((V.setCell ⟨g2, j * 3, none⟩ (.string nm)).setCell ⟨g2, j * 3 + 1, none⟩ f.sv).setCell ⟨g2, j * 3 + 2, none⟩ f.cv).setCell ⟨g2, (j + 1) * 3, none⟩ (.string q.a.name)).setCell ⟨g2, (j + 1) * 3 + 1, none⟩ q.sv).setCell ⟨g2, (j + 1) * 3 + 2, none⟩ q.cv)) := fun V hbV => by
              have hlen9 : (A' ++ q :: f :: B).length = rs.length + 1 := by rw [← hAB]; simp; omega
              obtain ⟨k9, k8⟩ := (hD.still hbV).swap (g := g2) (cap := c) (by rw [hlen9])
              rw [hA', HNN.out] at k9 k8
              refine ⟨role1, A', q :: B, by rw [← hAB]; simp, hA', k9, (hS.trans (DStp.still hbV)).trans k8, fun x hx => ?_⟩
              simp only [List.mem_cons] at hx
              rcases hx with rfl | hx
              · rw [HNN.out]; exact hlt
              · exact hB x hx
            have g0 := pf (j * 3)
            have g1' := pf (j * 3 + 1)
            have g2' := pf (j * 3 + 2)
            have g3 := pf ((j + 1) * 3)
            have g4 := pf ((j + 1) * 3 + 1)
            have g5 := pf ((j + 1) * 3 + 2)
            have hj1 : j < nl + 1 := by omega
            have hj2 : j + 1 < nl + 1 := by omega
            rw [eu] at p1 HSW
            rw [ev] at p2 HSW
            rw [eu4] at r1 HSW
            rw [ev4] at r2 HSW
            generalize q.a.chs.length = ncq at *
            generalize f.a.chs.length = ncf at *
            generalize q.a.name = qn at *
            clear hD hS hB hAB hq hf pf eg eg2 HP hA e1 HD HPF pfa hqm hqn hlt eu ev eu4 ev4
            go_wp2_with fail
            go_quiet (fail)
            go_wp2_with fail
            go_region
            go_wp2
            exact ⟨⟨j, by omega, rfl, HSW.out _ (below_drewN (Below.refl _ _) _)⟩, by simp [intOf]⟩
    · go_simp
      refine hK.out _ _ trivial (fun _ => ?_)
      clear hK K
      refine wpAnyH_ready (rs := [4]) (by kernel_rfl) (by simp) (AllReadyH.cons rfl (fun K hK => ?_) (AllReadyH.nil))
      go_simp
      refine hK.out _ _ trivial (fun _ => ?_)
      clear hK K
      refine wpAnyH_ready (rs := [7]) (by kernel_rfl) (by simp) (AllReadyH.cons rfl (fun K hK => ?_) (AllReadyH.nil))
      rw [if_pos (by rfl)]
      refine Lib.wp_append_run _ _ _ 39 39 rfl _ _ rfl rfl _ _ HRN.out ?_
      go_simp
      refine hK.out _ _ trivial (fun _ => ?_)
      clear hK K
      refine wpAnyH_takeL (i := 8) (v := ?_) rfl (by kernel_rfl) (by kernel_rfl) (by kernel_rfl) (fun _ _ _ h => h) (Or.inl ⟨by kernel_rfl, ?_⟩) trivial ?_
      rotate_left
      · intro V _
        go_simp
        (try with_reducible rfl)
      simp only [put_list, List.set_cons_succ, List.set_cons_zero]
      refine wpAnyH_takeL (i := 9) (v := ?_) rfl (by kernel_rfl) (by kernel_rfl) (by kernel_rfl) (fun _ _ _ h => h) (Or.inl ⟨by kernel_rfl, ?_⟩) trivial ?_
      rotate_left
      · intro V _
        go_simp
        (try with_reducible rfl)
      simp only [put_list, List.set_cons_succ, List.set_cons_zero]
      refine wpAnyH_ready (rs := [10]) (by kernel_rfl) (by simp) (AllReadyH.cons rfl (fun K hK => ?_) (AllReadyH.nil))
      go_simp
      refine hK.out _ _ trivial (fun _ => ?_)
      clear hK K
      refine wpAnyH_done (by kernel_rfl) ?_ _
      rw [← HW5.out]
      clear HRN HW0 HW5 m50 m57 f57 b0 b1 b2 hMW
      go_wp2
      clear m55
      go_loopw [4] (fun i wr => ∃ j : Nat, j ≤ nl ∧ i = .int .i64 j ∧ Hid (PutI w role M a rs f kv lv uv g c j wr)) (fun i _ => (intOf i).toNat)
      case atStart => exact ⟨nl, Nat.le_refl _, rfl, HI0⟩
      case round =>
        clear HI0
        obtain ⟨j, hj, rfl, HP⟩ := hrel
        cases j with
        | zero =>
          have HE : Hid (DocTo w role M { a with fs := insA a.fs f.a } kv lv uv wr) := by
            obtain ⟨role1, A, B, hAB, hA, hD, hS, hB⟩ := HP.out
            exact PutI.done HG.out.1 hAB hD hS hB (fun q hq => by rw [List.eq_nil_of_length_eq_zero hA] at hq; simp at hq)
          clear HP
          go_wp2_with fail
          go_quiet (fail)
          go_wp2
          go_end0
          refine ⟨rfl, ?_⟩
          obtain ⟨role9, rs9, fv9, u1, u2⟩ := HE.out
          exact ⟨role9, rs9, fv9, u1.still (below_drewN (Below.refl _ _) _), u2.trans (DStp.still (below_drewN (Below.refl _ _) _))⟩
        | succ j =>
          obtain ⟨role1, A, B, hAB, hA, hD, hS, hB⟩ := HP.out
          obtain ⟨A', q, rfl⟩ : ∃ A' q, A = A' ++ [q] := ⟨A.dropLast, A.getLast (by intro e; rw [e] at hA; simp at hA), (List.dropLast_concat_getLast _).symm⟩
          have hA' : A'.length = j := by simpa using hA
          have e1 : A' ++ [q] ++ f :: B = A' ++ q :: f :: B := by simp
          rw [e1] at hD
          have hq : (A' ++ q :: f :: B)[j]? = some q := by rw [← hA']; simp
          have hf : (A' ++ q :: f :: B)[j + 1]? = some f := by rw [← hA', List.getElem?_append_right (by omega)]; simp
          obtain ⟨g1, k1, eg, _, _, _, p0, p1, p2, pf⟩ := hD.file hq
          obtain ⟨g2, k2, eg2, _, _, _, r0, r1, r2, _⟩ := hD.file hf
          have e2 : g1 = g := by simp only [Value.slice.injEq, Option.some.injEq, Addr.mk.injEq] at eg; exact eg.1.1.symm
          have e3 : g2 = g := by simp only [Value.slice.injEq, Option.some.injEq, Addr.mk.injEq] at eg2; exact eg2.1.1.symm
          subst e2
          subst e3
          have m5 : wr.cell? ⟨M, 5, none⟩ = some (.slice (some ⟨g2, 0, none⟩) (nl + 1) c) := by rw [← HNL.out]; exact blk_cell (o := 5) hD.str rfl
          have t1 : IntKind.i64.wrap (((j + 1 : Nat) : Int) - 1) = (j : Int) := by rw [IntKind.wrap_i64]; omega
          have t2 : IntKind.i64.wrap ((j : Int) + 1 - 1) = (j : Int) := by rw [IntKind.wrap_i64]; omega
          have HD := hideP (And.intro hD (And.intro hS (And.intro hB (And.intro hAB hA'))))
          have hqm : q ∈ rs := by rw [← hAB]; simp
          have hqn := HG.out.2.2 q hqm
          rw [HNN.out] at r0 hqn
          have HPF := hideP pf
          have pfa := fun o => pf o
          have hne : (q.a.name.toList == nm.toList) = false := by
            rw [beq_eq_false_iff_ne]
            intro e
            exact hqn (by
              rw [ByteArray.toList_eq, ByteArray.toList_eq] at e
              have e2 : q.a.name.data = nm.data := Array.toList_inj.1 e
              cases hh : q.a.name; cases hh2 : nm; rw [hh, hh2] at e2; cases e2; rfl)
          obtain ⟨u1, u2, u3, eu⟩ : ∃ q' n c, q.sv = .slice q' n c := by
            obtain ⟨q', c, e, _⟩ := own_slice (hD.files q (by simp)).safe.1
            exact ⟨_, _, _, e⟩
          obtain ⟨v1, v2, ev, _⟩ := (hD.files q (by simp)).crow
          obtain ⟨u4, u5, u6, eu4⟩ : ∃ q' n c, f.sv = .slice q' n c := by
            obtain ⟨q', c, e, _⟩ := own_slice (hD.files f (by simp)).safe.1
            exact ⟨_, _, _, e⟩
          obtain ⟨v4, v5, ev4, _⟩ := (hD.files f (by simp)).crow
          by_cases hlt : cmpS q.a.name nm < 0
          · have hl1 : Op.bytesLess q.a.name.toList nm.toList = true := by rw [less_names]; exact decide_eq_true hlt
            have HE : Hid (DocTo w role M { a with fs := insA a.fs f.a } kv lv uv wr) := by
              rw [← e1] at hD
              refine PutI.done HG.out.1 hAB hD hS hB (fun x hx => ?_)
              have hsr := HG.out.2.1
              rw [HG.out.1, ← hAB] at hsr
              simp only [List.mem_append, List.mem_singleton] at hx
              rw [HNN.out]
              rcases hx with hx | rfl
              · have h9 : cmpS x.a.name q.a.name < 0 := by
                  have h8 := hsr
                  unfold SortedA at h8
                  rw [List.map_append, List.map_append] at h8
                  have h7 := (List.pairwise_append.1 (List.pairwise_append.1 h8).1).2.2
                  exact h7 x.a (List.mem_map_of_mem hx) q.a (by simp)
                exact cmpS_trans h9 hlt
              · exact hlt
            generalize q.a.name = qn at *
            clear hD hS hB hAB hq hf pf eg eg2 HP hA e1 HD HPF pfa p1 p2 r1 r2 hqm hqn hlt
            go_wp2_with fail
            go_quiet (fail)
            go_wp2
            go_end0
            refine ⟨rfl, ?_⟩
            obtain ⟨role9, rs9, fv9, w1, w2⟩ := HE.out
            exact ⟨role9, rs9, fv9, w1.still (below_drewN (Below.refl _ _) _), w2.trans (DStp.still (below_drewN (Below.refl _ _) _))⟩
          · have hl1 : Op.bytesLess q.a.name.toList nm.toList = false := by rw [less_names]; exact decide_eq_false hlt
            have HSW : Hid (∀ V, Below wr.heap.size wr V → PutI w role M a rs f kv lv uv g2 c j ((((((V.setCell ⟨g2, j * 3, none⟩ (.string nm)).setCell ⟨g2, j * 3 + 1, none⟩ f.sv).setCell ⟨g2, j * 3 + 2, none⟩ f.cv).setCell ⟨g2, (j + 1) * 3, none⟩ (.string q.a.name)).setCell ⟨g2, (j + 1) * 3 + 1, none⟩ q.sv).setCell ⟨g2, (j + 1) * 3 + 2, none⟩ q.cv)) := fun V hbV => by
              have hlen9 : (A' ++ q :: f :: B).length = rs.length + 1 := by rw [← hAB]; simp; omega
              obtain ⟨k9, k8⟩ := (hD.still hbV).swap (g := g2) (cap := c) (by rw [hlen9])
              rw [hA', HNN.out] at k9 k8
              refine ⟨role1, A', q :: B, by rw [← hAB]; simp, hA', k9, (hS.trans (DStp.still hbV)).trans k8, fun x hx => ?_⟩
              simp only [List.mem_cons] at hx
              rcases hx with rfl | hx
              · rw [HNN.out]; exact hlt
              · exact hB x hx
            have g0 := pf (j * 3)
            have g1' := pf (j * 3 + 1)
            have g2' := pf (j * 3 + 2)
            have g3 := pf ((j + 1) * 3)
            have g4 := pf ((j + 1) * 3 + 1)
            have g5 := pf ((j + 1) * 3 + 2)
            have hj1 : j < nl + 1 := by omega
            have hj2 : j + 1 < nl + 1 := by omega
            rw [eu] at p1 HSW
            rw [ev] at p2 HSW
            rw [eu4] at r1 HSW
            rw [ev4] at r2 HSW
            generalize q.a.chs.length = ncq at *
            generalize f.a.chs.length = ncf at *
            generalize q.a.name = qn at *
            clear hD hS hB hAB hq hf pf eg eg2 HP hA e1 HD HPF pfa hqm hqn hlt eu ev eu4 ev4
            go_wp2_with fail
            go_quiet (fail)
            go_wp2_with fail
            go_region
            go_wp2
            exact ⟨⟨j, by omega, rfl, HSW.out _ (below_drewN (Below.refl _ _) _)⟩, by simp [intOf]⟩

end Go.Proofs.Ytcceaokldphfgaa
