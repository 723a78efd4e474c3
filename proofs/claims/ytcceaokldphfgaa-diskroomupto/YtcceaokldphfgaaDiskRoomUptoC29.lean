/- YtcceaokldphfgaaDiskRoomUptoC29 -/
import Derived.Lib.SliceRun
import Derived.Shelf.RegionOpenPlain
import Derived.Test.YtcceaokldphfgaaDiskRoomUptoC28
namespace Go.Proofs.Ytcceaokldphfgaa
open Go.RowKit Go.Shelf

/-- An append whose run is known, as one step of a region that draws. -/
theorem step_app {P : Program} {ops : Array Oper} {o : Oper} {a : Act} {w : World} {K : Act → World → Prop} {Q : Exit → Act → World → Prop} {E : Prop} (hg : o.guard = none) (d x : Operand) (t t' : TypeId)
    (hop : o.op = Op.call { callee := Callee.builtin Builtin.append, args := #[d, x], argTypes := #[t, t'] }) (v u : Value) (hd : a.eval d = v) (hx : a.eval x = u) {v' : Value} {w' : World}
    (hr : (Builtin.append_ #[t, t'] o.type #[v, u]).run P w = .ok v' w') (hK : K (a.put o.dst v') w') : if Region.wanted o (yielded ops a.tmps) = true then Oper.wp P o a w K Q else E := by
  have hw : Region.wanted o (yielded ops a.tmps) = true := by simp [Region.wanted, hg]
  rw [if_pos hw]
  unfold Oper.wp execOp
  simp only [hop, resolve, invoke, builtin, Sem.run_bind, Sem.run_pure, Result.andThen_ok, List.map_toArray, List.map_cons, List.map_nil, hd, hx, hr]
  exact hK

set_option maxHeartbeats 1000000 in
set_option maxRecDepth 100000 in
/-- slices.Delete of one file. -/
theorem Delete_one (g n cap i : Nat) (xs : List Value) (w : World) (hown : w.ownsRow 0 82 1 (.slice (some ⟨g, 0, none⟩) n cap) n xs) (h1 : ∀ v ∈ xs, v.oneCell' = true) (hi : i < n) :
    Calls Try.prog 79 #[.slice (some ⟨g, 0, none⟩) n cap, .int .i64 i, .int .i64 ((i : Int) + 1)] w fun r w' => r = .returned (.slice (some ⟨g, 0, none⟩) (n - 1) cap) ∧ w'.ownsRow 0 82 1 (.slice (some ⟨g, 0, none⟩) (n - 1) cap) (n - 1) (xs.take i ++ xs.drop (i + 1)) ∧ Grew w w' (.slice (some ⟨g, 0, none⟩) n cap) (.slice (some ⟨g, 0, none⟩) (n - 1) cap) := by
  obtain ⟨cur, hg, hnc, hcm, hcl, hct⟩ := own_split hown
  have hxl : xs.length = n := by rw [← hct, List.length_take]; omega
  obtain ⟨i0, hi0, hz0, hzs, hzb⟩ := info_parts Try.info82
  have hcell : ∀ j u, xs[j]? = some u → w.drew.cell? ⟨g, j, none⟩ = some u := fun j u hj => by
    refine blk_cell (w := w.drew) hg ?_
    rw [← hct, List.getElem?_take] at hj
    split at hj
    · simpa using hj
    · cases hj
  obtain ⟨A, hA, hsrc⟩ : ∃ A : Addr, (if cap = i + 1 then some (⟨g, 0, none⟩ : Addr) else some ⟨g, i + 1, none⟩) = some A ∧ ∀ j u, (xs.drop (i + 1))[j]? = some u → w.drew.cell? (A.add j) = some u := by
    by_cases h : cap = i + 1
    · refine ⟨_, if_pos h, fun j u hj => ?_⟩
      rw [List.drop_eq_nil_of_le (by omega)] at hj
      simp at hj
    · refine ⟨_, if_neg h, fun j u hj => ?_⟩
      rw [Addr.add_lit]
      rw [List.getElem?_drop] at hj
      exact hcell _ u hj
  have hr := run_append_room (P := Try.prog) (w := w.drew) 49 49 82 i0 Try.underlying49 hi0 g i cap cur.toArray hg A (n - (i + 1)) (cap - (i + 1)) (xs.drop (i + 1)) (by rw [hzs, Nat.mul_one, List.length_drop, hxl]) hsrc (fun u hu => h1 u (List.mem_of_mem_drop hu)) (by omega) (by rw [hzs, List.length_drop, List.size_toArray]; omega)
  rw [hzs] at hr
  have hin : i + (n - (i + 1)) = n - 1 := by omega
  have hdl : (xs.drop (i + 1)).length = n - (i + 1) := by rw [List.length_drop, hxl]
  have htake : cur.take i = xs.take i := by rw [← hct, List.take_take, Nat.min_eq_left (by omega)]
  simp only [Nat.mul_one, hdl, hin, htake] at hr
  obtain ⟨C, hC⟩ : ∃ C, C = xs.take i ++ xs.drop (i + 1) ++ cur.drop (n - 1) := ⟨_, rfl⟩
  rw [← hC] at hr
  have hCl : C.length = cap := by rw [hC]; simp; omega
  obtain ⟨w1, hw1⟩ : ∃ w1, w1 = w.drew.setRow g C.toArray := ⟨_, rfl⟩
  rw [← hw1] at hr
  have hg1 : w1.heap[g]? = some (.cells C.toArray 82 (0, 0)) := by rw [hw1]; exact setRow_heap w.drew g cur.toArray _ 82 _ hg
  have hcr := fun ty => Lib.run_clear_slice (P := Try.prog) w1 49 82 ty (.pointer none) Try.underlying49 (fun w => by kernel_rfl) rfl rfl g (n - 1) 1 (cap - (n - 1)) (by omega)
    (fun j hj => by
      have : C.toArray[n - 1 + j]? = some C[n - 1 + j] := by simp
      rw [blk_cell hg1 this]; rfl) (fun j hj => blk_free hg1)
  have hw2 : w1.setCells g (n - 1) (List.replicate 1 (.pointer none)) = w1.setCell ⟨g, n - 1, none⟩ (.pointer none) := rfl
  rw [hw2] at hcr
  have hg2 : (w1.setCell ⟨g, n - 1, none⟩ (.pointer none)).heap[g]? = some (.cells (C.set (n - 1) (.pointer none)).toArray 82 (0, 0)) := by
    have := blk_set (o := n - 1) hg1 (.pointer none)
    rw [this]
    simp
  have hown2 : (w1.setCell ⟨g, n - 1, none⟩ (.pointer none)).ownsRow 0 82 1 (.slice (some ⟨g, 0, none⟩) (n - 1) cap) (n - 1) (xs.take i ++ xs.drop (i + 1)) := by
    refine own_mk hg2 (Nat.zero_le _) (by omega) hcm (by simpa using hCl) ?_
    rw [List.take_set_of_le (Nat.le_refl _), hC]
    exact List.take_left' (by simp; omega)
  have hgr : Grew w (w1.setCell ⟨g, n - 1, none⟩ (.pointer none)) (.slice (some ⟨g, 0, none⟩) n cap) (.slice (some ⟨g, 0, none⟩) (n - 1) cap) := by
    refine ⟨⟨?_, ?_, ?_, ?_, fun k hk hne => ?_⟩, fun k hk => .inl hk⟩
    · rw [hw1]; rfl
    · rw [hw1]; rfl
    · rw [hw1]; rfl
    · rw [hw1]; simp [World.setCell, World.setRow]
    · have hkg : k ≠ g := fun e => hne (by rw [e]; rfl)
      rw [Below.heap_setCell w1 _ _ k hkg, hw1]
      exact setRow_other w.drew g k _ hkg
  have HQ := hideP (And.intro hown2 hgr)
  have HR := hideP hr
  simp only [maxLen] at hcm
  have hz2 : ((i : Int) == (i : Int) + 1) = false := by simp; omega
  have htn : ((i : Int) + 1).toNat = i + 1 := by omega
  have hq1 : (i : Int) + 1 ≤ (n : Int) := by omega
  have hic : i ≤ cap := by omega
  have hi0p : (0 : Int) ≤ (i : Int) + 1 := by omega
  have mixed : Try.prog.follows .mixedOrders = true := by kernel_rfl
  have hq4 : ¬ (cap = n - 1) := by omega
  have hq5 : n - (n - 1) = 1 := by omega
  clear hown hg hg1 hg2 hown2 hgr hct hcl hr h1 hxl hw1 hcell hsrc hw2 hdl htake hC hCl
  go_enter Try.func79, Try.ntmps79
  go_wp2
  go_region_law_o (refine step_app rfl _ _ 49 49 rfl _ _ (by simp [Act.eval, Act.put]) (by simp [Act.eval, Act.put]) HR.out ?_)
  go_wp2
  go_ret
  exact ⟨rfl, HQ.out⟩

end Go.Proofs.Ytcceaokldphfgaa
