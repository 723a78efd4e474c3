/-
  The table of the chapter in memory.
-/
import Derived.Test.YtaeadndihchbnaaDoorGasOpsC04
namespace Go.Proofs.YtaeadndihchbnaaDoor
open Go.RowKit Go.Shelf

/-- Operations whose values are reckoned, one behind the other. -/
def runOps (P : Program) : List Oper → List Value → World → Option (List Value × World)
  | [], L, w => some (L, w)
  | o :: r, L, w => match o.guard, o.dst with
    | none, some d => match (execOp (Act.eval { tmps := L.toArray, defers := [] }) o).run P w with
      | .ok (.value v) w' => runOps P r (L.set d v) w'
      | _ => none
    | _, _ => none

theorem runOps_wp {P : Program} {ops : Array Oper} {Q : Exit → Act → World → Prop} : ∀ (l : List Oper) (L : List Value) (w : World) (L' : List Value) (w' : World), runOps P l L w = some (L', w') → Q .normal { tmps := L'.toArray, defers := [] } w' → wpList P ops Q l { tmps := L.toArray, defers := [] } w
  | [], L, w, L', w', h, hq => by cases h; exact hq
  | o :: r, L, w, L', w', h, hq => by
    unfold runOps at h
    split at h
    · rename_i d hg hd
      split at h
      · rename_i v w1 he
        refine wpList_plain hg fun K hK => ?_
        unfold Oper.wp
        rw [he]
        show K (Act.put _ o.dst v) w1
        rw [hd, put_list]
        exact hK _ _ (runOps_wp r _ _ _ _ h hq)
      · cases h
    · cases h

def regA : Code → Array Oper
  | .seq (.region _ ops _) _ => ops
  | _ => #[]

def regB : Code → Array Oper
  | .seq _ (.seq (.region _ ops _) _) => ops
  | _ => #[]

/-- A row of the table: the opcode, its name, gas, pops, pushes. -/
abbrev RowT := Nat × ByteArray × Nat × Nat × Nat

def rowsT0 : List RowT := [(0, { data := #[83, 84, 79, 80] }, 0, 0, 0), (1, { data := #[65, 68, 68] }, 3, 2, 1), (2, { data := #[77, 85, 76] }, 5, 2, 1), (3, { data := #[83, 85, 66] }, 3, 2, 1), (4, { data := #[68, 73, 86] }, 5, 2, 1), (5, { data := #[83, 68, 73, 86] }, 5, 2, 1), (6, { data := #[77, 79, 68] }, 5, 2, 1), (7, { data := #[83, 77, 79, 68] }, 5, 2, 1), (8, { data := #[65, 68, 68, 77, 79, 68] }, 8, 3, 1), (9, { data := #[77, 85, 76, 77, 79, 68] }, 8, 3, 1), (10, { data := #[69, 88, 80] }, 10, 2, 1), (11, { data := #[83, 73, 71, 78, 69, 88, 84, 69, 78, 68] }, 5, 2, 1), (16, { data := #[76, 84] }, 3, 2, 1), (17, { data := #[71, 84] }, 3, 2, 1), (18, { data := #[83, 76, 84] }, 3, 2, 1), (19, { data := #[83, 71, 84] }, 3, 2, 1), (20, { data := #[69, 81] }, 3, 2, 1), (21, { data := #[73, 83, 90, 69, 82, 79] }, 3, 1, 1), (22, { data := #[65, 78, 68] }, 3, 2, 1), (23, { data := #[79, 82] }, 3, 2, 1), (24, { data := #[88, 79, 82] }, 3, 2, 1), (25, { data := #[78, 79, 84] }, 3, 1, 1), (26, { data := #[66, 89, 84, 69] }, 3, 2, 1), (27, { data := #[83, 72, 76] }, 3, 2, 1), (28, { data := #[83, 72, 82] }, 3, 2, 1), (29, { data := #[83, 65, 82] }, 3, 2, 1)]

def rowsT1 : List RowT := [(32, { data := #[75, 69, 67, 67, 65, 75, 50, 53, 54] }, 30, 2, 1), (48, { data := #[65, 68, 68, 82, 69, 83, 83] }, 2, 0, 1), (49, { data := #[66, 65, 76, 65, 78, 67, 69] }, 0, 1, 1), (50, { data := #[79, 82, 73, 71, 73, 78] }, 2, 0, 1), (51, { data := #[67, 65, 76, 76, 69, 82] }, 2, 0, 1), (52, { data := #[67, 65, 76, 76, 86, 65, 76, 85, 69] }, 2, 0, 1), (53, { data := #[67, 65, 76, 76, 68, 65, 84, 65, 76, 79, 65, 68] }, 3, 1, 1), (54, { data := #[67, 65, 76, 76, 68, 65, 84, 65, 83, 73, 90, 69] }, 2, 0, 1), (55, { data := #[67, 65, 76, 76, 68, 65, 84, 65, 67, 79, 80, 89] }, 3, 3, 0), (56, { data := #[67, 79, 68, 69, 83, 73, 90, 69] }, 2, 0, 1), (57, { data := #[67, 79, 68, 69, 67, 79, 80, 89] }, 3, 3, 0), (58, { data := #[71, 65, 83, 80, 82, 73, 67, 69] }, 2, 0, 1), (59, { data := #[69, 88, 84, 67, 79, 68, 69, 83, 73, 90, 69] }, 0, 1, 1), (60, { data := #[69, 88, 84, 67, 79, 68, 69, 67, 79, 80, 89] }, 0, 4, 0), (61, { data := #[82, 69, 84, 85, 82, 78, 68, 65, 84, 65, 83, 73, 90, 69] }, 2, 0, 1), (62, { data := #[82, 69, 84, 85, 82, 78, 68, 65, 84, 65, 67, 79, 80, 89] }, 3, 3, 0), (63, { data := #[69, 88, 84, 67, 79, 68, 69, 72, 65, 83, 72] }, 0, 1, 1), (64, { data := #[66, 76, 79, 67, 75, 72, 65, 83, 72] }, 20, 1, 1), (65, { data := #[67, 79, 73, 78, 66, 65, 83, 69] }, 2, 0, 1), (66, { data := #[84, 73, 77, 69, 83, 84, 65, 77, 80] }, 2, 0, 1), (67, { data := #[78, 85, 77, 66, 69, 82] }, 2, 0, 1), (68, { data := #[80, 82, 69, 86, 82, 65, 78, 68, 65, 79] }, 2, 0, 1), (69, { data := #[71, 65, 83, 76, 73, 77, 73, 84] }, 2, 0, 1), (70, { data := #[67, 72, 65, 73, 78, 73, 68] }, 2, 0, 1), (71, { data := #[83, 69, 76, 70, 66, 65, 76, 65, 78, 67, 69] }, 5, 0, 1), (72, { data := #[66, 65, 83, 69, 70, 69, 69] }, 2, 0, 1)]

def rowsT2 : List RowT := [(73, { data := #[66, 76, 79, 66, 72, 65, 83, 72] }, 3, 1, 1), (74, { data := #[66, 76, 79, 66, 66, 65, 83, 69, 70, 69, 69] }, 2, 0, 1), (80, { data := #[80, 79, 80] }, 2, 1, 0), (81, { data := #[77, 76, 79, 65, 68] }, 3, 1, 1), (82, { data := #[77, 83, 84, 79, 82, 69] }, 3, 2, 0), (83, { data := #[77, 83, 84, 79, 82, 69, 56] }, 3, 2, 0), (84, { data := #[83, 76, 79, 65, 68] }, 0, 1, 1), (85, { data := #[83, 83, 84, 79, 82, 69] }, 0, 2, 0), (86, { data := #[74, 85, 77, 80] }, 8, 1, 0), (87, { data := #[74, 85, 77, 80, 73] }, 10, 2, 0), (88, { data := #[80, 67] }, 2, 0, 1), (89, { data := #[77, 83, 73, 90, 69] }, 2, 0, 1), (90, { data := #[71, 65, 83] }, 2, 0, 1), (91, { data := #[74, 85, 77, 80, 68, 69, 83, 84] }, 1, 0, 0), (92, { data := #[84, 76, 79, 65, 68] }, 100, 1, 1), (93, { data := #[84, 83, 84, 79, 82, 69] }, 100, 2, 0), (94, { data := #[77, 67, 79, 80, 89] }, 3, 3, 0), (95, { data := #[80, 85, 83, 72, 48] }, 2, 0, 1), (240, { data := #[67, 82, 69, 65, 84, 69] }, 32000, 3, 1), (241, { data := #[67, 65, 76, 76] }, 0, 7, 1), (242, { data := #[67, 65, 76, 76, 67, 79, 68, 69] }, 0, 7, 1), (243, { data := #[82, 69, 84, 85, 82, 78] }, 0, 2, 0), (244, { data := #[68, 69, 76, 69, 71, 65, 84, 69, 67, 65, 76, 76] }, 0, 6, 1), (245, { data := #[67, 82, 69, 65, 84, 69, 50] }, 32000, 4, 1), (250, { data := #[83, 84, 65, 84, 73, 67, 67, 65, 76, 76] }, 0, 6, 1), (253, { data := #[82, 69, 86, 69, 82, 84] }, 0, 2, 0)]

def rowsT3 : List RowT := [(255, { data := #[83, 69, 76, 70, 68, 69, 83, 84, 82, 85, 67, 84] }, 5000, 1, 0)]

def rowsT : List RowT := rowsT0 ++ rowsT1 ++ rowsT2 ++ rowsT3

def rowC (r : RowT) : List Value := [.int .i64 r.1, .string r.2.1, .int .u64 r.2.2.1, .int .i64 r.2.2.2.1, .int .i64 r.2.2.2.2]

theorem rows_len : rowsT.length = 79 := by decide +kernel

def rowsC : List Value := rowsT.flatMap rowC

set_option maxRecDepth 100000 in
theorem rows_run (w : World) : (runOps Tryd.prog (regB (Tryd.f60.body.getD .skip)).toList (.slice none 0 0 :: List.replicate 80 undef) w).map (fun r => (r.1.getD 0 undef, r.2)) = some (.slice (some ⟨w.heap.size, 0, none⟩) 79 79, w.alloc (.cells rowsC.toArray 86 (0, 0))) := by kernel_rfl

set_option maxRecDepth 100000 in
theorem rows_any (w : World) : Calls Tryd.prog 60 #[] w fun e w' => e = .returned (.slice (some ⟨w.heap.size, 0, none⟩) 79 79) ∧ w' = w.alloc (.cells rowsC.toArray 86 (0, 0)) := by
  obtain ⟨⟨L', w1⟩, h1, h2⟩ := Option.map_eq_some_iff.1 (rows_run w)
  simp only [Prod.mk.injEq] at h2
  obtain ⟨h2, rfl⟩ := h2
  refine calls_of_wp Tryd.func60 (c := .seq (.region 0 (regA (Tryd.f60.body.getD .skip)) false) (.seq (.region 1 (regB (Tryd.f60.body.getD .skip)) false) .ret)) (by kernel_rfl) ?_
  refine wp_seq ?_
  have hl : (#[] ++ Array.replicate (Tryd.f60.ntmps - (#[] : Array Value).size) undef) = (List.replicate 81 undef).toArray := by kernel_rfl
  rw [hl]
  have h0 : runOps Tryd.prog (regA (Tryd.f60.body.getD .skip)).toList (List.replicate 81 undef) w = some (.slice none 0 0 :: List.replicate 80 undef, w) := by kernel_rfl
  refine wp_region_list (runOps_wp _ _ _ _ _ h0 ?_)
  refine wp_seq ?_
  refine wp_region_list (runOps_wp _ _ _ _ _ h1 ?_)
  refine wp_ret ?_
  refine ⟨rfl, _, results_tmp Tryd.results60 _ _ _, ?_, rfl⟩
  rw [← h2]
  simp [Array.getD_eq_getD_getElem?, List.getD_eq_getElem?_getD]

end Go.Proofs.YtaeadndihchbnaaDoor
