/- YtcceaokldphfgaaDiskDoesC39 -/
import Derived.Test.YtcceaokldphfgaaDiskDoesC38
namespace Go.Proofs.Ytcceaokldphfgaa
open Go.RowKit Go.Shelf

/-- A file is taken out. -/
def OutTo (w : World) (role : DRole) (M : Nat) (a : ASt) (rs : List DRep) (i : Nat) (r : DRep) (kv lv uv : Value) (w' : World) : Prop :=
  ∃ role' fv', DocOK w' role' M { a with fs := a.fs.eraseIdx i } (rs.eraseIdx i) fv' kv lv uv ∧ DStp role role' w w' ∧ DFileOK w' role' r ∧ ∀ q ∈ rs.eraseIdx i, ∀ k, r.cv.ownBlock = some k → q.cv.ownBlock ≠ some k

set_option maxHeartbeats 2000000 in
set_option maxRecDepth 100000 in
theorem rout_any {w : World} {role : DRole} {M i : Nat} {a : ASt} {rs : List DRep} {r : DRep} {fv kv lv uv : Value} (h : DocOK w role M a rs fv kv lv uv) (hi : rs[i]? = some r) (hn : rs.length ≤ 1000) :
    Calls Try.prog 70 #[.pointer (some ⟨M, 0, none⟩), .int .i64 i] w fun e w' => e = .returned (.agg #[.string r.a.name, r.sv, r.cv]) ∧ Hid (OutTo w role M a rs i r kv lv uv w') := by
  obtain ⟨g, cap, hfv, hcap, hgz, hg2, c0, c1, c2, hfr⟩ := h.file hi
  have hmem := List.mem_of_getElem? hi
  have hF := h.files r hmem
  have hil : i < rs.length := (List.getElem?_eq_some_iff.1 hi).1
  obtain ⟨x1, x2, x3, ex⟩ : ∃ q n c, r.sv = .slice q n c := by
    obtain ⟨q, c, e, _⟩ := own_slice hF.safe.1
    exact ⟨_, _, _, e⟩
  obtain ⟨y1, y2, ey, _⟩ := hF.crow
  have m5 : w.cell? ⟨M, 5, none⟩ = some fv := blk_cell (o := 5) h.str rfl
  have hMz := h.dom M (by rw [h.roleM]; omega)
  obtain ⟨W0, hW0⟩ : ∃ W0, W0 = ((w.alloc (.cells #[.string ⟨#[]⟩, .slice none 0 0, .slice none 0 0] 90)).alloc (.cells #[.string r.a.name, r.sv, r.cv] 90)) := ⟨_, rfl⟩
  have hb0 : Below w.heap.size w W0 := by rw [hW0]; exact ((Below.refl _ w).alloc (Nat.le_refl _) _).alloc (by simp) _
  have hz0 : W0.heap.size = w.heap.size + 2 := by rw [hW0]; simp
  have hB0 : W0.heap[w.heap.size]? = some (.cells #[.string ⟨#[]⟩, .slice none 0 0, .slice none 0 0] 90 (0, 0)) := by
    rw [hW0]; exact (Below.heap_alloc _ _ _ (by simp)).trans (World.alloc_heap_new w _)
  have hB1 : W0.heap[w.heap.size + 1]? = some (.cells #[.string r.a.name, r.sv, r.cv] 90 (0, 0)) := by
    rw [hW0]
    have := World.alloc_heap_new (w.alloc (.cells #[.string ⟨#[]⟩, .slice none 0 0, .slice none 0 0] 90)) (.cells #[.string r.a.name, r.sv, r.cv] 90)
    rwa [World.size_alloc] at this
  have hbd : Below W0.heap.size W0 W0.drew := (Below.refl _ W0).drew
  obtain ⟨q1, k1, w1, q2, k2, w2, HR1, HR2, hb1, hb2, HST⟩ := ((h.still hb0).still hbd).cut hi hn hfv
  have hb1' : Below W0.heap.size W0 w1 := hbd.trans (hb1.mono hbd.size)
  have hb2' : Below W0.heap.size W0 w2 := hbd.trans (hb2.mono hbd.size)
  have hm0 : W0.cell? ⟨M, 5, none⟩ = some fv := (hb0.cell (p := ⟨M, 5, none⟩) hMz).trans m5
  have hm1 : w1.cell? ⟨M, 5, none⟩ = some fv := (hb1'.cell (p := ⟨M, 5, none⟩) (by show M < _; omega)).trans hm0
  have hm2 : w2.cell? ⟨M, 5, none⟩ = some fv := (hb2'.cell (p := ⟨M, 5, none⟩) (by show M < _; omega)).trans hm0
  have hf2 : w2.frozen? ⟨M, 5, none⟩ = false := blk_free ((hb2'.block M (by omega)).trans ((hb0.block M hMz).trans h.str))
  have hX0 := (hb2'.block (w.heap.size) (by omega)).trans hB0
  have hX1 := (hb2'.block (w.heap.size + 1) (by omega)).trans hB1
  obtain ⟨W3, hW3⟩ : ∃ W3, W3 = w2.setCell ⟨M, 5, none⟩ (.slice q2 (rs.length - 1) k2) := ⟨_, rfl⟩
  have hY0 : W3.heap[w.heap.size]? = some (.cells #[.string ⟨#[]⟩, .slice none 0 0, .slice none 0 0] 90 (0, 0)) := by rw [hW3]; exact (Below.heap_setCell _ _ _ _ (fun e => by have : w.heap.size = M := e; omega)).trans hX0
  have hY1 : W3.heap[w.heap.size + 1]? = some (.cells #[.string r.a.name, r.sv, r.cv] 90 (0, 0)) := by rw [hW3]; exact (Below.heap_setCell _ _ _ _ (fun e => by have : w.heap.size + 1 = M := e; omega)).trans hX1
  have a0 : W3.cell? ⟨w.heap.size + 1, 0, none⟩ = some (.string r.a.name) := blk_cell hY1 rfl
  have a1 : W3.cell? ⟨w.heap.size + 1, 1, none⟩ = some r.sv := blk_cell hY1 rfl
  have a2 : W3.cell? ⟨w.heap.size + 1, 2, none⟩ = some r.cv := blk_cell hY1 rfl
  have e0 : W3.cell? ⟨w.heap.size, 0, none⟩ = some (.string ⟨#[]⟩) := blk_cell hY0 rfl
  have e1 : W3.cell? ⟨w.heap.size, 1, none⟩ = some (.slice none 0 0) := blk_cell hY0 rfl
  have e2 : W3.cell? ⟨w.heap.size, 2, none⟩ = some (.slice none 0 0) := blk_cell hY0 rfl
  have f0 : W3.frozen? ⟨w.heap.size, 0, none⟩ = false := blk_free hY0
  have f1 : W3.frozen? ⟨w.heap.size, 1, none⟩ = false := blk_free hY0
  have f2 : W3.frozen? ⟨w.heap.size, 2, none⟩ = false := blk_free hY0
  have hr0 : role w.heap.size = 0 := by
    by_cases hx : role w.heap.size = 0
    · exact hx
    · exact absurd (h.dom _ hx) (Nat.lt_irrefl _)
  have HFIN : Hid (∀ u0 u1 u2, OutTo w role M a rs i r kv lv uv (((W3.setCell ⟨w.heap.size, 0, none⟩ u0).setCell ⟨w.heap.size, 1, none⟩ u1).setCell ⟨w.heap.size, 2, none⟩ u2)) := fun u0 u1 u2 => by
    obtain ⟨role', g1, g2, g3, g4⟩ := HST.out
    have e3 : w2.setCell ⟨M, 5, none⟩ (.slice q2 (rs.length - 1) k2) = W3 := hW3.symm
    rw [e3] at g1 g2 g3
    have hr0' : role' w.heap.size = 0 := by rw [g2.ext _ (by show w.heap.size < W0.heap.size; omega)]; exact hr0
    have hsame : ∀ k, k ≠ w.heap.size → (((W3.setCell ⟨w.heap.size, 0, none⟩ u0).setCell ⟨w.heap.size, 1, none⟩ u1).setCell ⟨w.heap.size, 2, none⟩ u2).heap[k]? = W3.heap[k]? := fun k hk => (Below.heap_setCell _ _ _ k hk).trans ((Below.heap_setCell _ _ _ k hk).trans (Below.heap_setCell _ _ _ k hk))
    have hneq : ∀ k, role' k ≠ 0 → k ≠ w.heap.size := fun k hk e => hk (by rw [e]; exact hr0')
    have hsz : (((W3.setCell ⟨w.heap.size, 0, none⟩ u0).setCell ⟨w.heap.size, 1, none⟩ u1).setCell ⟨w.heap.size, 2, none⟩ u2).heap.size = W3.heap.size := by simp [World.setCell]
    have g2z := g2.size
    refine ⟨role', _, g1.kept (fun k hk _ => ⟨hsame k (hneq k hk), rfl⟩) g1.one (fun k hk => by rw [hsz]; exact g1.dom k hk), ⟨g2.os.trans hb0.os, g2.tape.trans hb0.tape, g2.output.trans hb0.output, by rw [hsz]; exact Nat.le_trans hb0.size g2z, fun k hk => g2.ext k (Nat.lt_of_lt_of_le hk hb0.size), fun k hk hr => (hsame k (by omega)).trans ((g2.keep k (Nat.lt_of_lt_of_le hk hb0.size) hr).trans (hb0.block k hk))⟩, g3.kept (fun k e hk => ⟨hsame k (hneq k (by omega)), e⟩) (fun k e => ⟨hsame k (hneq k (by rw [g3.rowR k e]; omega)), g3.rowR k e⟩), g4⟩
  have b10 : ∀ u0 u1 u2 : Value, (((W3.setCell ⟨w.heap.size, 0, none⟩ u0).setCell ⟨w.heap.size, 1, none⟩ u1).setCell ⟨w.heap.size, 2, none⟩ u2).cell? ⟨w.heap.size, 0, none⟩ = some u0 := fun u0 u1 u2 => blk_cell (blk_set (o := 2) (blk_set (o := 1) (blk_set (o := 0) hY0 u0) u1) u2) rfl
  have b11 : ∀ u0 u1 u2 : Value, (((W3.setCell ⟨w.heap.size, 0, none⟩ u0).setCell ⟨w.heap.size, 1, none⟩ u1).setCell ⟨w.heap.size, 2, none⟩ u2).cell? ⟨w.heap.size, 1, none⟩ = some u1 := fun u0 u1 u2 => blk_cell (blk_set (o := 2) (blk_set (o := 1) (blk_set (o := 0) hY0 u0) u1) u2) rfl
  have b12 : ∀ u0 u1 u2 : Value, (((W3.setCell ⟨w.heap.size, 0, none⟩ u0).setCell ⟨w.heap.size, 1, none⟩ u1).setCell ⟨w.heap.size, 2, none⟩ u2).cell? ⟨w.heap.size, 2, none⟩ = some u2 := fun u0 u1 u2 => blk_cell (blk_set (o := 2) (blk_set (o := 1) (blk_set (o := 0) hY0 u0) u1) u2) rfl
  have HW0 := hideP hW0
  have HW3 := hideP hW3
  rw [ex] at c1 a1 HW0 ⊢
  rw [ey] at c2 a2 HW0 ⊢
  rw [hfv] at m5 hm0 hm1 hm2
  generalize hnr : rs.length = nr at *
  generalize r.a.chs.length = nc at *
  generalize r.a.name = nm at *
  obtain ⟨I1, hI1⟩ : ∃ I1, I1 = i + 1 := ⟨_, rfl⟩
  rw [← hI1] at HR2
  have t1 : IntKind.i64.wrap ((i : Int) + 1) = (I1 : Int) := by rw [IntKind.wrap_i64]; omega
  have z1 : (i : Int) ≤ (cap : Int) := by omega
  have z2 : (I1 : Int) ≤ (nr : Int) := by omega
  have z3 : (nr : Int) ≤ (cap : Int) := by omega
  have z4 : i ≤ cap := by omega
  have z5 : I1 ≤ nr := by omega
  have HZ0 := hideP hz0
  clear h hF hfr hmem hi hnr hW0 hW3 hb0 hB0 hB1 hbd hb1 hb2 hb1' hb2' hX0 hX1 hY0 hY1 HST hr0 hz0 hfv hI1
  go_enter Try.func70, Try.ntmps70
  go_wp2
  rw [← HW0.out]
  refine wp_region_heldS (S := fun _ => True) (by kernel_rfl) trivial (fun _ => ?_)
  refine wpAnyH_takeL (i := 0) (v := ?_) rfl (by kernel_rfl) (by kernel_rfl) (by kernel_rfl) (fun _ _ _ h => h) (Or.inl ⟨by kernel_rfl, ?_⟩) trivial ?_
  rotate_left
  · intro V _
    go_simp
    (try with_reducible rfl)
  simp only [put_list, List.set_cons_succ, List.set_cons_zero]
  refine wpAnyH_takeL (i := 1) (v := ?_) rfl (by kernel_rfl) (by kernel_rfl) (by kernel_rfl) (fun _ _ _ h => h) (Or.inl ⟨by kernel_rfl, ?_⟩) trivial ?_
  rotate_left
  · intro V _
    go_simp
    (try with_reducible rfl)
  simp only [put_list, List.set_cons_succ, List.set_cons_zero]
  refine wpAnyH_takeL (i := 2) (v := ?_) rfl (by kernel_rfl) (by kernel_rfl) (by kernel_rfl) (fun _ _ _ h => h) (Or.inl ⟨by kernel_rfl, ?_⟩) trivial ?_
  rotate_left
  · intro V _
    go_simp
    (try with_reducible rfl)
  simp only [put_list, List.set_cons_succ, List.set_cons_zero]
  refine wpAnyH_takeL (i := 3) (v := ?_) rfl (by kernel_rfl) (by kernel_rfl) (by kernel_rfl) (fun _ _ _ h => h) (Or.inl ⟨by kernel_rfl, ?_⟩) trivial ?_
  rotate_left
  · intro V _
    go_simp
    (try with_reducible rfl)
  simp only [put_list, List.set_cons_succ, List.set_cons_zero]
  refine wpAnyH_takeL (i := 5) (v := ?_) rfl (by kernel_rfl) (by kernel_rfl) (by kernel_rfl) (fun _ _ _ h => h) (Or.inl ⟨by kernel_rfl, ?_⟩) trivial ?_
  rotate_left
  · intro V _
    go_simp
    (try with_reducible rfl)
  simp only [put_list, List.set_cons_succ, List.set_cons_zero]
  refine wpAnyH_takeL (i := 8) (v := ?_) rfl (by kernel_rfl) (by kernel_rfl) (by kernel_rfl) (fun _ _ _ h => h) (Or.inl ⟨by kernel_rfl, ?_⟩) trivial ?_
  rotate_left
  · intro V _
    go_simp
    (try with_reducible rfl)
  simp only [put_list, List.set_cons_succ, List.set_cons_zero]
  refine wpAnyH_takeL (i := 9) (v := ?_) rfl (by kernel_rfl) (by kernel_rfl) (by kernel_rfl) (fun _ _ _ h => h) (Or.inl ⟨by kernel_rfl, ?_⟩) trivial ?_
  rotate_left
  · intro V _
    go_simp
    (try with_reducible rfl)
  simp only [put_list, List.set_cons_succ, List.set_cons_zero]
  refine wpAnyH_takeL (i := 10) (v := ?_) rfl (by kernel_rfl) (by kernel_rfl) (by kernel_rfl) (fun _ _ _ h => h) (Or.inl ⟨by kernel_rfl, ?_⟩) trivial ?_
  rotate_left
  · intro V _
    go_simp
    (try with_reducible rfl)
  simp only [put_list, List.set_cons_succ, List.set_cons_zero]
  refine wpAnyH_takeL (i := 12) (v := ?_) rfl (by kernel_rfl) (by kernel_rfl) (by kernel_rfl) (fun _ _ _ h => h) (Or.inl ⟨by kernel_rfl, ?_⟩) trivial ?_
  rotate_left
  · intro V _
    go_simp
    (try with_reducible rfl)
  simp only [put_list, List.set_cons_succ, List.set_cons_zero]
  refine wpAnyH_takeL (i := 13) (v := ?_) rfl (by kernel_rfl) (by kernel_rfl) (by kernel_rfl) (fun _ _ _ h => h) (Or.inl ⟨by kernel_rfl, ?_⟩) trivial ?_
  rotate_left
  · intro V _
    go_simp
    (try with_reducible rfl)
  simp only [put_list, List.set_cons_succ, List.set_cons_zero]
  refine wpAnyH_ready (rs := [4, 11]) (by kernel_rfl) (by simp) (AllReadyH.cons rfl (fun K hK => ?_) (AllReadyH.cons rfl (fun K hK => ?_) (AllReadyH.nil)))
  · go_simp
    refine hK.out _ _ trivial (fun _ => ?_)
    clear hK K
    refine wpAnyH_takeL (i := 6) (v := ?_) rfl (by kernel_rfl) (by kernel_rfl) (by kernel_rfl) (fun _ _ _ h => h) (Or.inl ⟨by kernel_rfl, ?_⟩) trivial ?_
    rotate_left
    · intro V _
      go_simp
      (try with_reducible rfl)
    simp only [put_list, List.set_cons_succ, List.set_cons_zero]
    refine wpAnyH_ready (rs := [7, 11]) (by kernel_rfl) (by simp) (AllReadyH.cons rfl (fun K hK => ?_) (AllReadyH.cons rfl (fun K hK => ?_) (AllReadyH.nil)))
    · rw [if_pos (by rfl)]
      first
        | refine Lib.wp_append_run _ _ _ 39 39 rfl _ _ rfl rfl _ _ HR1.out ?_
        | refine Lib.wp_append_run _ _ _ 39 39 rfl _ _ rfl rfl _ _ HR2.out ?_
      go_simp
      refine hK.out _ _ trivial (fun _ => ?_)
      clear hK K
      refine wpAnyH_ready (rs := [11]) (by kernel_rfl) (by simp) (AllReadyH.cons rfl (fun K hK => ?_) (AllReadyH.nil))
      go_simp
      refine hK.out _ _ trivial (fun _ => ?_)
      clear hK K
      refine wpAnyH_takeL (i := 14) (v := ?_) rfl (by kernel_rfl) (by kernel_rfl) (by kernel_rfl) (fun _ _ _ h => h) (Or.inl ⟨by kernel_rfl, ?_⟩) trivial ?_
      rotate_left
      · intro V _
        go_simp
        (try with_reducible rfl)
      simp only [put_list, List.set_cons_succ, List.set_cons_zero]
      refine wpAnyH_ready (rs := [15]) (by kernel_rfl) (by simp) (AllReadyH.cons rfl (fun K hK => ?_) (AllReadyH.nil))
      rw [if_pos (by rfl)]
      first
        | refine Lib.wp_append_run _ _ _ 39 39 rfl _ _ rfl rfl _ _ HR1.out ?_
        | refine Lib.wp_append_run _ _ _ 39 39 rfl _ _ rfl rfl _ _ HR2.out ?_
      go_simp
      refine hK.out _ _ trivial (fun _ => ?_)
      clear hK K
      refine wpAnyH_takeL (i := 16) (v := ?_) rfl (by kernel_rfl) (by kernel_rfl) (by kernel_rfl) (fun _ _ _ h => h) (Or.inl ⟨by kernel_rfl, ?_⟩) trivial ?_
      rotate_left
      · intro V _
        go_simp
        (try with_reducible rfl)
      simp only [put_list, List.set_cons_succ, List.set_cons_zero]
      refine wpAnyH_takeL (i := 17) (v := ?_) rfl (by kernel_rfl) (by kernel_rfl) (by kernel_rfl) (fun _ _ _ h => h) (Or.inl ⟨by kernel_rfl, ?_⟩) trivial ?_
      rotate_left
      · intro V _
        go_simp
        (try with_reducible rfl)
      simp only [put_list, List.set_cons_succ, List.set_cons_zero]
      refine wpAnyH_ready (rs := [18]) (by kernel_rfl) (by simp) (AllReadyH.cons rfl (fun K hK => ?_) (AllReadyH.nil))
      go_simp
      refine hK.out _ _ trivial (fun _ => ?_)
      clear hK K
      refine wpAnyH_done (by kernel_rfl) ?_ _
      rw [← HW3.out]
      clear HR1 HR2 HW0 HW3 hm0 hm1 hm2 hf2 m5 c0 c1 c2
      generalize (if cap = I1 then (some ⟨g, 0, none⟩ : Option Addr) else some ⟨g, I1 * 3, none⟩) = A1
      go_wp2
      refine bodyPost_ret (v := .agg #[.string nm, .slice x1 x2 x3, .slice y1 nc y2]) (by simp [results, Try.results70, go_sem, b10, b11, b12]) rfl ⟨rfl, HFIN.out _ _ _⟩
    · go_simp
      refine hK.out _ _ trivial (fun _ => ?_)
      clear hK K
      refine wpAnyH_takeL (i := 14) (v := ?_) rfl (by kernel_rfl) (by kernel_rfl) (by kernel_rfl) (fun _ _ _ h => h) (Or.inl ⟨by kernel_rfl, ?_⟩) trivial ?_
      rotate_left
      · intro V _
        go_simp
        (try with_reducible rfl)
      simp only [put_list, List.set_cons_succ, List.set_cons_zero]
      refine wpAnyH_ready (rs := [7]) (by kernel_rfl) (by simp) (AllReadyH.cons rfl (fun K hK => ?_) (AllReadyH.nil))
      rw [if_pos (by rfl)]
      first
        | refine Lib.wp_append_run _ _ _ 39 39 rfl _ _ rfl rfl _ _ HR1.out ?_
        | refine Lib.wp_append_run _ _ _ 39 39 rfl _ _ rfl rfl _ _ HR2.out ?_
      go_simp
      refine hK.out _ _ trivial (fun _ => ?_)
      clear hK K
      refine wpAnyH_ready (rs := [15]) (by kernel_rfl) (by simp) (AllReadyH.cons rfl (fun K hK => ?_) (AllReadyH.nil))
      rw [if_pos (by rfl)]
      first
        | refine Lib.wp_append_run _ _ _ 39 39 rfl _ _ rfl rfl _ _ HR1.out ?_
        | refine Lib.wp_append_run _ _ _ 39 39 rfl _ _ rfl rfl _ _ HR2.out ?_
      go_simp
      refine hK.out _ _ trivial (fun _ => ?_)
      clear hK K
      refine wpAnyH_takeL (i := 16) (v := ?_) rfl (by kernel_rfl) (by kernel_rfl) (by kernel_rfl) (fun _ _ _ h => h) (Or.inl ⟨by kernel_rfl, ?_⟩) trivial ?_
      rotate_left
      · intro V _
        go_simp
        (try with_reducible rfl)
      simp only [put_list, List.set_cons_succ, List.set_cons_zero]
      refine wpAnyH_takeL (i := 17) (v := ?_) rfl (by kernel_rfl) (by kernel_rfl) (by kernel_rfl) (fun _ _ _ h => h) (Or.inl ⟨by kernel_rfl, ?_⟩) trivial ?_
      rotate_left
      · intro V _
        go_simp
        (try with_reducible rfl)
      simp only [put_list, List.set_cons_succ, List.set_cons_zero]
      refine wpAnyH_ready (rs := [18]) (by kernel_rfl) (by simp) (AllReadyH.cons rfl (fun K hK => ?_) (AllReadyH.nil))
      go_simp
      refine hK.out _ _ trivial (fun _ => ?_)
      clear hK K
      refine wpAnyH_done (by kernel_rfl) ?_ _
      rw [← HW3.out]
      clear HR1 HR2 HW0 HW3 hm0 hm1 hm2 hf2 m5 c0 c1 c2
      generalize (if cap = I1 then (some ⟨g, 0, none⟩ : Option Addr) else some ⟨g, I1 * 3, none⟩) = A1
      go_wp2
      refine bodyPost_ret (v := .agg #[.string nm, .slice x1 x2 x3, .slice y1 nc y2]) (by simp [results, Try.results70, go_sem, b10, b11, b12]) rfl ⟨rfl, HFIN.out _ _ _⟩
  · go_simp
    refine hK.out _ _ trivial (fun _ => ?_)
    clear hK K
    refine wpAnyH_takeL (i := 14) (v := ?_) rfl (by kernel_rfl) (by kernel_rfl) (by kernel_rfl) (fun _ _ _ h => h) (Or.inl ⟨by kernel_rfl, ?_⟩) trivial ?_
    rotate_left
    · intro V _
      go_simp
      (try with_reducible rfl)
    simp only [put_list, List.set_cons_succ, List.set_cons_zero]
    refine wpAnyH_ready (rs := [4]) (by kernel_rfl) (by simp) (AllReadyH.cons rfl (fun K hK => ?_) (AllReadyH.nil))
    go_simp
    refine hK.out _ _ trivial (fun _ => ?_)
    clear hK K
    refine wpAnyH_takeL (i := 6) (v := ?_) rfl (by kernel_rfl) (by kernel_rfl) (by kernel_rfl) (fun _ _ _ h => h) (Or.inl ⟨by kernel_rfl, ?_⟩) trivial ?_
    rotate_left
    · intro V _
      go_simp
      (try with_reducible rfl)
    simp only [put_list, List.set_cons_succ, List.set_cons_zero]
    refine wpAnyH_ready (rs := [7]) (by kernel_rfl) (by simp) (AllReadyH.cons rfl (fun K hK => ?_) (AllReadyH.nil))
    rw [if_pos (by rfl)]
    first
      | refine Lib.wp_append_run _ _ _ 39 39 rfl _ _ rfl rfl _ _ HR1.out ?_
      | refine Lib.wp_append_run _ _ _ 39 39 rfl _ _ rfl rfl _ _ HR2.out ?_
    go_simp
    refine hK.out _ _ trivial (fun _ => ?_)
    clear hK K
    refine wpAnyH_ready (rs := [15]) (by kernel_rfl) (by simp) (AllReadyH.cons rfl (fun K hK => ?_) (AllReadyH.nil))
    rw [if_pos (by rfl)]
    first
      | refine Lib.wp_append_run _ _ _ 39 39 rfl _ _ rfl rfl _ _ HR1.out ?_
      | refine Lib.wp_append_run _ _ _ 39 39 rfl _ _ rfl rfl _ _ HR2.out ?_
    go_simp
    refine hK.out _ _ trivial (fun _ => ?_)
    clear hK K
    refine wpAnyH_takeL (i := 16) (v := ?_) rfl (by kernel_rfl) (by kernel_rfl) (by kernel_rfl) (fun _ _ _ h => h) (Or.inl ⟨by kernel_rfl, ?_⟩) trivial ?_
    rotate_left
    · intro V _
      go_simp
      (try with_reducible rfl)
    simp only [put_list, List.set_cons_succ, List.set_cons_zero]
    refine wpAnyH_takeL (i := 17) (v := ?_) rfl (by kernel_rfl) (by kernel_rfl) (by kernel_rfl) (fun _ _ _ h => h) (Or.inl ⟨by kernel_rfl, ?_⟩) trivial ?_
    rotate_left
    · intro V _
      go_simp
      (try with_reducible rfl)
    simp only [put_list, List.set_cons_succ, List.set_cons_zero]
    refine wpAnyH_ready (rs := [18]) (by kernel_rfl) (by simp) (AllReadyH.cons rfl (fun K hK => ?_) (AllReadyH.nil))
    go_simp
    refine hK.out _ _ trivial (fun _ => ?_)
    clear hK K
    refine wpAnyH_done (by kernel_rfl) ?_ _
    rw [← HW3.out]
    clear HR1 HR2 HW0 HW3 hm0 hm1 hm2 hf2 m5 c0 c1 c2
    generalize (if cap = I1 then (some ⟨g, 0, none⟩ : Option Addr) else some ⟨g, I1 * 3, none⟩) = A1
    go_wp2
    refine bodyPost_ret (v := .agg #[.string nm, .slice x1 x2 x3, .slice y1 nc y2]) (by simp [results, Try.results70, go_sem, b10, b11, b12]) rfl ⟨rfl, HFIN.out _ _ _⟩

end Go.Proofs.Ytcceaokldphfgaa
