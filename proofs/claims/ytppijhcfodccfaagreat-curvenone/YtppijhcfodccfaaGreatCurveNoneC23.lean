/-
  The square field: elements as pairs of elements of the prime field.
-/
import Derived.Test.YtppijhcfodccfaaGreatCurveNoneC14
import Derived.Test.YtppijhcfodccfaaGreatCurveNoneC19
import Derived.Test.YtppijhcfodccfaaGreatCurveNoneC20
import Derived.Test.YtppijhcfodccfaaGreatCurveNoneC22
import Derived.Test.YtppijhcfodccfaaGreatCurveNoneC18
import Derived.Test.YtppijhcfodccfaaGreatCurveNoneC04
import Derived.Test.YtppijhcfodccfaaGreatCurveNoneC02
import Derived.Test.YtppijhcfodccfaaGreatCurveNoneC13
namespace Go.Proofs.YtppijhcfodccfaaGreat.P4
open Go.RowKit Go.Shelf

theorem wp_build0D {P : Program} {op : Oper} {l : List Value} {ds : List Deferred} {w : World} {K : Act → World → Prop} {Q : Exit → Act → World → Prop} (t : TypeId) (d : Nat) (ho : op.op = .build t #[]) (hd : op.dst = some d) {v : Value} (hb : (Instr.build t #[]).run P w = .ok v w) (h : K { tmps := (l.set d v).toArray, defers := ds } w) : op.wp P { tmps := l.toArray, defers := ds } w K Q := by
  have e : (execOp (Act.eval { tmps := l.toArray, defers := ds }) op).run P w = .ok (.value v) w := by
    unfold execOp
    simp only [ho, List.map_toArray, List.map_nil, Sem.run_bind, hb, Result.andThen, Sem.run_pure]
  unfold Oper.wp
  rw [e]
  show K _ _
  rw [hd, put_list]
  exact h

theorem build_zero (w : World) : (Instr.build 125 #[]).run Tryz.prog w = .ok (.agg (pt k0 k0 false)) w := by
  refine build_struct (fs := fsOf (Tryz.prog.underlying 125)) (z := zn ++ (zn ++ #[.bool false])) (places := #[(0, 4), (4, 4), (2 * 4, 1)]) (by kernel_rfl) (by kernel_rfl) (by kernel_rfl) ?_
  rw [pt_eq, nv_zero]
  rfl

set_option maxHeartbeats 1000000 in
set_option maxRecDepth 100000 in
theorem beside_any (e0 : Int) (he : e0 ≠ 3) (w : World) : Calls Tryz.prog 178 #[.int .i64 e0] w fun e w' => e = .returned (.agg (pt k0 k0 false)) ∧ Below w.heap.size w w' := by
  go_enter Tryz.func178, Tryz.ntmps178
  refine wp_seqH (fun K0 HK0 => ?_)
  go_wp2_with fail
  refine HK0.out _ _ ?_
  clear HK0 K0
  refine at_world (fun W0 hW0 => ?_)
  have hbr : ∃ C : Array Value, W0.heap[w.heap.size]? = some (.cells C 125 (0, 0)) ∧ C.size = 2 * 4 + 1 := by
    rw [hW0]
    exact ⟨_, heap_new _ _, rfl⟩
  have hbw : Below w.heap.size w W0 := by
    rw [hW0]
    exact (Below.refl _ _).alloc (Nat.le_refl _) _
  clear hW0
  obtain ⟨C, hC, hs⟩ := hbr
  have HC := hideP hC
  have HBW := hideP hbw
  clear hC hbw
  generalize w.heap.size = N at *
  have he1 : (e0 == (3 : Int)) = false := by simpa using he
  have he2 : decide (e0 = (3 : Int)) = false := by simpa using he
  refine wp_seqH (fun K2 HK2 => ?_)
  refine wp_seqH (fun K1 HK1 => ?_)
  refine wp_region_list ?_
  refine wpList_oper rfl (fun K hK => ?_)
  go_simp
  refine hK _ _ ?_
  clear hK K
  refine wpList_oper rfl (fun K hK => ?_)
  go_simp
  refine hK _ _ ?_
  clear hK K
  refine wpList_nil ?_
  refine HK1.out _ _ ?_
  clear HK1 K1
  refine wp_cond_false (by first | rfl | exact congrArg Value.bool he1 | exact congrArg Value.bool he2) ?_
  refine wp_skip ?_
  refine HK2.out _ _ ?_
  clear HK2 K2
  refine wp_seqH (fun K1 HK1 => ?_)
  refine wp_region_list ?_
  refine wpList_oper rfl (fun K hK => ?_)
  refine wp_build0D 125 6 rfl rfl (build_zero W0) ?_
  refine hK _ _ ?_
  clear hK K
  simp only [List.set_cons_succ, List.set_cons_zero]
  refine wpList_store_midD rfl 125 (.tmp 2) (.tmp 6) rfl rfl N 0 (pt k0 k0 false) rfl rfl (there_of HC.out (hs.trans (pt_size _ _ _).symm)) (infoPt (pt_size _ _ _)) (pt_one _ _ _) ?_
  refine wpList_nil ?_
  refine HK1.out _ _ ?_
  have hQ := KQ.start HC.out hs
  have g1 := hQ.put (C := pt k0 k0 false) (pt_size _ _ _)
  have hS := hQ.store (C := pt k0 k0 false) (pt_size _ _ _)
  generalize World.setCells _ N 0 (pt k0 k0 false).toList = x at g1 hS ⊢
  refine wp_ret ?_
  exact bodyPost_ret_by (results_cell rfl rfl (loadC _ N 0 125 (pt k0 k0 false) _ (rangeOf g1) underPt rfl (infoPt (pt_size _ _ _)))) rfl ⟨rfl, HBW.out.trans hS.below⟩

end Go.Proofs.YtppijhcfodccfaaGreat.P4

namespace Go.Proofs.YtppijhcfodccfaaGreat.P4
open Go.RowKit Go.Shelf

abbrev P3 := K × K × Bool

noncomputable def ptS (p : P3) : Array Value := pt p.1 p.2.1 p.2.2

/-- The point that a scaled one stands for. -/
def outS (m : Nat) (s : T3) : P3 :=
  if Like m s.2.2 k0 then (k0, k0, true)
  else (rest m (kmul m s.1 (kmul m (kinv m s.2.2) (kinv m s.2.2))), rest m (kmul m s.2.1 (kmul m (kmul m (kinv m s.2.2) (kinv m s.2.2)) (kinv m s.2.2))), false)

theorem out_S {w : World} {g p m : Nat} {b : K} (hG : GAt w g p m b) (s : T3) : Calls Tryz.prog 179 #[.pointer (some ⟨g, 0, none⟩), .agg (scS m s)] w fun e w' => e = .returned (.agg (ptS (outS m s))) ∧ Below w.heap.size w w' := by
  unfold outS
  by_cases hz : Like m s.2.2 k0
  · rw [if_pos hz]
    exact out_zero hG s.1 s.2.1 s.2.2 hz
  · rw [if_neg hz]
    exact out_any hG s.1 s.2.1 s.2.2 hz

theorem good_is {w : World} {g p m : Nat} {b : K} (hG : GAt w g p m b) (x y : K) (hx : Fits x) (hy : Fits y) (i : Bool) {e0 : Int} (h : goodN m b x y i = e0) : Calls Tryz.prog 111 #[.pointer (some ⟨g, 0, none⟩), .agg (pt x y i)] w fun e w' => e = .returned (.int .i64 e0) ∧ Below w.heap.size w w' := by
  rw [← h]
  exact good_any hG x y hx hy i

theorem goodN_cases (m : Nat) (b x y : K) (i : Bool) : goodN m b x y i = 0 ∨ goodN m b x y i = 70 ∨ goodN m b x y i = 71 := by
  unfold goodN
  repeat' split
  all_goals simp

def timesP (m : Nat) (x y : K) (i : Bool) (k : Nat) : T3 := if i = true then (k1, k1, k0) else timesS m (x, y) k

theorem times_P {w : World} {g p m : Nat} {b : K} (hG : GAt w g p m b) (x y : K) (hx : Fits x) (hy : Fits y) (i : Bool) (k : Nat) (hk : k < 2 ^ 256) : Calls Tryz.prog 169 #[.pointer (some ⟨g, 0, none⟩), .agg (pt x y i), .agg (W4.cs (limb k))] w fun e w' => e = .returned (.agg (scS m (timesP m x y i k))) ∧ Below w.heap.size w w' := by
  cases i with
  | true => exact times_inf hG x y k
  | false => exact times_any hG x y hx hy k hk

/-- A group's base and order. -/
structure GB (w : World) (g : Nat) (x y : K) (k : Nat) : Prop where
  base : w.rangeAt g (1 + 3 * 4) (pt x y false).toList
  ord : w.rangeAt g (2 + 5 * 4) (W4.cs (limb k)).toList
  lt : g < w.heap.size

theorem GB.below {w w' : World} {g k : Nat} {x y : K} (h : GB w g x y k) (hb : Below w.heap.size w w') : GB w' g x y k :=
  ⟨range_congr (hb.block _ h.lt) h.base, range_congr (hb.block _ h.lt) h.ord, Nat.lt_of_lt_of_le h.lt hb.size⟩

theorem GB.kq {W V : World} {R0 n ty g k : Nat} {x y : K} (h : GB W g x y k) (hS : KQ W R0 n ty V) (h1 : g ≠ R0) : GB V g x y k :=
  ⟨range_congr (hS.same _ h.lt h1) h.base, range_congr (hS.same _ h.lt h1) h.ord, Nat.lt_of_lt_of_le h.lt hS.size⟩

end Go.Proofs.YtppijhcfodccfaaGreat.P4

namespace Go.Proofs.YtppijhcfodccfaaGreat.P4
open Go.RowKit Go.Shelf

theorem zcp_size : (#[.int .u64 0, .int .u64 0, .int .u64 0, .int .u64 0, .int .u64 0, .int .u64 0, .int .u64 0, .int .u64 0, .bool false] : Array Value).size = 2 * 4 + 1 := rfl

theorem ptS_size (p : P3) : (ptS p).size = 2 * 4 + 1 := pt_size _ _ _

theorem ptS_one (p : P3) : (ptS p).all (·.oneCell') = true := pt_one _ _ _

theorem underA : Tryz.prog.underlying 34 = some (.struct (fsOf (Tryz.prog.underlying 34))) := by kernel_rfl

theorem infoA {C : Array Value} (h : C.size = 2 * 4 + 1) : (Tryz.prog.info? 34).map (·.size) = some C.size := by rw [h]; kernel_rfl

/-- A curve in memory: one of its groups. -/
structure CAt (w : World) (c g p m : Nat) (b bx bY : K) (k : Nat) : Prop where
  at_ : w.cell? ⟨c, 1, none⟩ = some (.pointer (some ⟨g, 0, none⟩))
  ga : GAt w g p m b
  gb : GB w g bx bY k
  clt : c < w.heap.size

theorem CAt.below {w w' : World} {c g p m : Nat} {b bx bY : K} {k : Nat} (h : CAt w c g p m b bx bY k) (hb : Below w.heap.size w w') : CAt w' c g p m b bx bY k :=
  ⟨(hb.cell (p := ⟨c, 1, none⟩) h.clt).trans h.at_, h.ga.below hb, h.gb.below hb, Nat.lt_of_lt_of_le h.clt hb.size⟩

theorem CAt.kq {W V : World} {R0 n ty c g p m : Nat} {b bx bY : K} {k : Nat} (h : CAt W c g p m b bx bY k) (hS : KQ W R0 n ty V) (h0 : c ≠ R0) (h1 : g ≠ R0) (h2 : p ≠ R0) : CAt V c g p m b bx bY k :=
  ⟨(World.cell?_of_block (w := W) (a := ⟨c, 1, none⟩) (hS.same _ h.clt h0)).trans h.at_, h.ga.kq hS h1 h2, h.gb.kq hS h1, Nat.lt_of_lt_of_le h.clt hS.size⟩

theorem build_a3 {X Y : Array Value} (hX : X.size = 4) (hY : Y.size = 4) (i : Bool) (w : World) : (Instr.build 34 #[(0, .agg X), (1, .agg Y), (2, .bool i)]).run Tryz.prog w = .ok (.agg (X ++ (Y ++ #[.bool i]))) w := by
  refine build_struct (fs := fsOf (Tryz.prog.underlying 34)) (z := #[] ++ (zn ++ (zn ++ #[.bool false]))) (places := #[(0, 4), (4, 4), (2 * 4, 1)]) (by kernel_rfl) (by kernel_rfl) (by kernel_rfl) ?_
  rw [fill_cons (X := X) rfl (off := 0) (size := 4) rfl hX rfl zn_size, Array.empty_append]
  rw [fill_cons (X := Y) rfl (off := 4) (size := 4) rfl hY hX zn_size]
  have e : X ++ (Y ++ #[.bool false]) = (X ++ Y) ++ (#[.bool false] ++ #[]) := by rw [Array.append_empty, Array.append_assoc]
  rw [e, fill_cons (X := #[.bool i]) rfl (off := 2 * 4) (size := 1) rfl rfl (by rw [Array.size_append, hX, hY]) rfl, Array.append_empty, Array.append_assoc]
  rfl

theorem bd_a3 (x y : K) (i : Bool) (w : World) : (Instr.build 34 #[(0, .agg (nv x)), (1, .agg (nv y)), (2, .bool i)]).run Tryz.prog w = .ok (.agg (pt x y i)) w := by
  rw [pt_eq]
  exact build_a3 (nv_size _) (nv_size _) i w

theorem bd_pt3 (x y : K) (i : Bool) (w : World) : (Instr.build 125 #[(0, .agg (nv x)), (1, .agg (nv y)), (2, .bool i)]).run Tryz.prog w = .ok (.agg (pt x y i)) w := by
  rw [pt_eq]
  exact build_pt3 (nv_size _) (nv_size _) i w

theorem wp_buildD {P : Program} {op : Oper} {l : List Value} {ds : List Deferred} {w : World} {K : Act → World → Prop} {Q : Exit → Act → World → Prop} (t : TypeId) (ps : Array (Nat × Operand)) (vs : Array (Nat × Value)) (d : Nat) (ho : op.op = .build t ps) (hd : op.dst = some d)
    (hps : ps.map (fun x => (x.1, Act.eval { tmps := l.toArray, defers := ds } x.2)) = vs) {v : Value} (hb : (Instr.build t vs).run P w = .ok v w) (h : K { tmps := (l.set d v).toArray, defers := ds } w) : op.wp P { tmps := l.toArray, defers := ds } w K Q := by
  unfold Oper.wp execOp
  simp only [ho, hps, hb, Sem.run_bind, Sem.run_pure, Result.andThen]
  show K _ _
  rw [hd, put_list]
  exact h

set_option maxHeartbeats 1000000 in
set_option maxRecDepth 100000 in
theorem from_any (x y : K) (i : Bool) (w : World) : Calls Tryz.prog 103 #[.agg (pt x y i)] w fun e w' => e = .returned (.agg (pt x y i)) ∧ Below w.heap.size w w' := by
  go_enter Tryz.func103, Tryz.ntmps103
  refine wp_seqH (fun K0 HK0 => ?_)
  go_wp2_with fail
  refine HK0.out _ _ ?_
  clear HK0 K0
  refine at_world (fun W0 hW0 => ?_)
  have hb0 : W0.heap[w.heap.size]? = some (.cells (pt x y i) 34 (0, 0)) := by
    rw [hW0]
    exact ((heap_old _ _ (by simp <;> omega)).trans (heap_new _ _))
  have hbr : ∃ C : Array Value, W0.heap[w.heap.size + 1]? = some (.cells C 125 (0, 0)) ∧ C.size = 2 * 4 + 1 := by
    rw [hW0]
    exact ⟨_, heap_new1 _ _ _, rfl⟩
  have hbw : Below w.heap.size w W0 := by
    rw [hW0]
    repeat first | exact Below.refl _ _ | (refine Below.alloc ?_ (by simp <;> omega) _)
  clear hW0
  obtain ⟨C, hC, hs⟩ := hbr
  have HC := hideP hC
  have H0 := hideP hb0
  have HBW := hideP hbw
  clear hC hb0 hbw
  generalize w.heap.size = N at *
  generalize hB1 : N + 1 = B1 at *
  have o1 : N < B1 := by omega
  clear hB1
  refine wp_seqH (fun K1 HK1 => ?_)
  refine wp_region_list ?_
  refine wpList_oper rfl (fun K hK => ?_)
  go_simp
  refine hK _ _ ?_
  clear hK K
  refine wpList_load_midD rfl 32 (.tmp 3) 4 rfl rfl N 0 (nv x) rfl _ (pt_x H0.out) underE rfl (infoE (nv_size _)) ?_
  simp only [List.set_cons_succ, List.set_cons_zero]
  refine wpList_oper rfl (fun K hK => ?_)
  go_simp
  refine hK _ _ ?_
  clear hK K
  refine wpList_load_midD rfl 32 (.tmp 5) 6 rfl rfl N 4 (nv y) rfl _ (pt_y H0.out) underE rfl (infoE (nv_size _)) ?_
  simp only [List.set_cons_succ, List.set_cons_zero]
  refine wpList_oper rfl (fun K hK => ?_)
  go_simp
  refine hK _ _ ?_
  clear hK K
  refine wpList_oper rfl (fun K hK => ?_)
  have hf := pt_i H0.out
  go_simp
  refine hK _ _ ?_
  clear hK K hf
  refine wpList_oper rfl (fun K hK => ?_)
  refine wp_buildD 125 _ #[(0, .agg (nv x)), (1, .agg (nv y)), (2, .bool i)] 9 rfl rfl (by simp only [List.map_toArray, List.map_cons, List.map_nil]; rfl) (bd_pt3 x y i W0) ?_
  refine hK _ _ ?_
  clear hK K
  simp only [List.set_cons_succ, List.set_cons_zero]
  have hQ := KQ.start HC.out hs
  refine wpList_store_midD rfl 125 (.tmp 2) (.tmp 9) rfl rfl B1 0 (pt x y i) rfl rfl (hQ.there (pt_size _ _ _)) (infoPt (pt_size _ _ _)) (pt_one _ _ _) ?_
  refine wpList_nil ?_
  refine HK1.out _ _ ?_
  have g1 := hQ.put (C := pt x y i) (pt_size _ _ _)
  have hS := hQ.store (C := pt x y i) (pt_size _ _ _)
  generalize World.setCells _ B1 0 (pt x y i).toList = x1 at g1 hS ⊢
  refine wp_ret ?_
  exact bodyPost_ret_by (results_cell rfl rfl (loadC _ B1 0 125 (pt x y i) _ (rangeOf g1) underPt rfl (infoPt (pt_size _ _ _)))) rfl ⟨rfl, HBW.out.trans (hS.below.mono (by omega))⟩

set_option maxHeartbeats 1000000 in
set_option maxRecDepth 100000 in
theorem to_any (x y : K) (i : Bool) (w : World) : Calls Tryz.prog 83 #[.agg (pt x y i)] w fun e w' => e = .returned (.agg (pt x y i)) ∧ Below w.heap.size w w' := by
  go_enter Tryz.func83, Tryz.ntmps83
  refine wp_seqH (fun K0 HK0 => ?_)
  go_wp2_with fail
  refine HK0.out _ _ ?_
  clear HK0 K0
  refine at_world (fun W0 hW0 => ?_)
  have hb0 : W0.heap[w.heap.size]? = some (.cells (pt x y i) 125 (0, 0)) := by
    rw [hW0]
    exact ((heap_old _ _ (by simp <;> omega)).trans (heap_new _ _))
  have hbr : ∃ C : Array Value, W0.heap[w.heap.size + 1]? = some (.cells C 34 (0, 0)) ∧ C.size = 2 * 4 + 1 := by
    rw [hW0]
    exact ⟨_, heap_new1 _ _ _, rfl⟩
  have hbw : Below w.heap.size w W0 := by
    rw [hW0]
    repeat first | exact Below.refl _ _ | (refine Below.alloc ?_ (by simp <;> omega) _)
  clear hW0
  obtain ⟨C, hC, hs⟩ := hbr
  have HC := hideP hC
  have H0 := hideP hb0
  have HBW := hideP hbw
  clear hC hb0 hbw
  generalize w.heap.size = N at *
  generalize hB1 : N + 1 = B1 at *
  have o1 : N < B1 := by omega
  clear hB1
  refine wp_seqH (fun K1 HK1 => ?_)
  refine wp_region_list ?_
  refine wpList_oper rfl (fun K hK => ?_)
  go_simp
  refine hK _ _ ?_
  clear hK K
  refine wpList_load_midD rfl 32 (.tmp 3) 4 rfl rfl N 0 (nv x) rfl _ (pt_x H0.out) underE rfl (infoE (nv_size _)) ?_
  simp only [List.set_cons_succ, List.set_cons_zero]
  refine wpList_oper rfl (fun K hK => ?_)
  go_simp
  refine hK _ _ ?_
  clear hK K
  refine wpList_load_midD rfl 32 (.tmp 5) 6 rfl rfl N 4 (nv y) rfl _ (pt_y H0.out) underE rfl (infoE (nv_size _)) ?_
  simp only [List.set_cons_succ, List.set_cons_zero]
  refine wpList_oper rfl (fun K hK => ?_)
  go_simp
  refine hK _ _ ?_
  clear hK K
  refine wpList_oper rfl (fun K hK => ?_)
  have hf := pt_i H0.out
  go_simp
  refine hK _ _ ?_
  clear hK K hf
  refine wpList_oper rfl (fun K hK => ?_)
  refine wp_buildD 34 _ #[(0, .agg (nv x)), (1, .agg (nv y)), (2, .bool i)] 9 rfl rfl (by simp only [List.map_toArray, List.map_cons, List.map_nil]; rfl) (bd_a3 x y i W0) ?_
  refine hK _ _ ?_
  clear hK K
  simp only [List.set_cons_succ, List.set_cons_zero]
  have hQ := KQ.start HC.out hs
  refine wpList_store_midD rfl 34 (.tmp 2) (.tmp 9) rfl rfl B1 0 (pt x y i) rfl rfl (hQ.there (pt_size _ _ _)) (infoA (pt_size _ _ _)) (pt_one _ _ _) ?_
  refine wpList_nil ?_
  refine HK1.out _ _ ?_
  have g1 := hQ.put (C := pt x y i) (pt_size _ _ _)
  have hS := hQ.store (C := pt x y i) (pt_size _ _ _)
  generalize World.setCells _ B1 0 (pt x y i).toList = x1 at g1 hS ⊢
  refine wp_ret ?_
  exact bodyPost_ret_by (results_cell rfl rfl (loadC _ B1 0 34 (pt x y i) _ (rangeOf g1) underA rfl (infoA (pt_size _ _ _)))) rfl ⟨rfl, HBW.out.trans (hS.below.mono (by omega))⟩

set_option maxHeartbeats 1000000 in
set_option maxRecDepth 100000 in
theorem group_any {w : World} {c g p m : Nat} {b bx bY : K} {k : Nat} (hC : CAt w c g p m b bx bY k) : Calls Tryz.prog 84 #[.pointer (some ⟨c, 0, none⟩)] w fun e w' => e = .returned (.pointer (some ⟨g, 0, none⟩)) ∧ Below w.heap.size w w' := by
  have hc := hC.at_
  clear hC
  go_enter Tryz.func84, Tryz.ntmps84
  go_wp2
  go_ret
  exact ⟨rfl, Below.refl _ _⟩

end Go.Proofs.YtppijhcfodccfaaGreat.P4

namespace Go.Proofs.YtppijhcfodccfaaGreat
open Go.RowKit Go.Shelf

def chkR (md : Region.Mode) (ops : Array Oper) (n : Nat) (ci : Nat → Nat) (a1 : Nat) (L : Nat → Bool → Array Bool) (Lq : Bool → Array Bool) : Bool :=
  ((List.range n).all fun i => [false, true].all fun p =>
    !(Region.ready md ops (L i p)).isEmpty && ((Region.ready md ops (L i p)).all fun j => j == ci i || (j == a1 && !p)) &&
    decide ((L i p).setIfInBounds (ci i) true = L (i + 1) p) && decide ((L i false).setIfInBounds a1 true = L i true)) &&
  decide (Region.ready md ops (Lq false) = [a1]) && decide ((Lq false).setIfInBounds a1 true = Lq true)

theorem regionR {P : Program} {md : Region.Mode} {ops : Array Oper} {Q : Exit → Act → World → Prop} {W0 w : World} {l : List Value} {ds : List Deferred} {r : Nat} {listed : Array Bool} (s n : Nat) (ci cd : Nat → Nat) (V : Nat → Value) (L : Nat → Bool → Array Bool) (Lq : Bool → Array Bool) (Tq : List Value) (zc : Array Value) (t a1 d1 : Nat)
    (hchk : chkR md ops n ci a1 L Lq = true) (hcd : ∀ i, i < n → d1 ≠ cd i) (hlisted : listed = L 0 false) (hw : Below W0.heap.size W0 w)
    (hc : ∀ i, i < n → ∀ (T : List Value) (w : World) (K : Act → World → Prop), Below W0.heap.size W0 w → (∀ x, x ≠ d1 → T[x]? = (TC cd V l i)[x]?) → (∀ w', Below w.heap.size w w' → K { tmps := (T.set (cd i) (V i)).toArray, defers := ds } w') → wpOp P ops Q (ci i) K { tmps := T.toArray, defers := ds } w)
    (h1 : ∀ (T : List Value) (w : World) (K : Act → World → Prop), K { tmps := (T.set d1 (.pointer (some ⟨w.heap.size, 0, none⟩))).toArray, defers := ds } (w.alloc (.cells zc t (0, 0))) → wpOp P ops Q a1 K { tmps := T.toArray, defers := ds } w)
    (hq0 : ∀ (w : World), Below W0.heap.size W0 w → wpAnyH P md ops Q (fun V => Below W0.heap.size W0 V) (r + 1) (Lq false) { tmps := Tq.toArray, defers := ds } w → wpAnyH P md ops Q (fun V => Below W0.heap.size W0 V) (r + 1 + s) (L n false) { tmps := (TC cd V l n).toArray, defers := ds } w)
    (hq1 : ∀ (w : World) (b1 : Nat), Below W0.heap.size W0 w → wpAnyH P md ops Q (fun V => Below W0.heap.size W0 V) r (Lq true) { tmps := (Tq.set d1 (.pointer (some ⟨b1, 0, none⟩))).toArray, defers := ds } w → wpAnyH P md ops Q (fun V => Below W0.heap.size W0 V) (r + s) (L n true) { tmps := ((TC cd V l n).set d1 (.pointer (some ⟨b1, 0, none⟩))).toArray, defers := ds } w)
    (hend : ∀ (w : World) (b1 : Nat), Below W0.heap.size W0 w → W0.heap.size ≤ b1 → w.heap[b1]? = some (.cells zc t (0, 0)) →
      wpAnyH P md ops Q (fun V => Below W0.heap.size W0 V) r (Lq true) { tmps := (Tq.set d1 (.pointer (some ⟨b1, 0, none⟩))).toArray, defers := ds } w) :
    wpAnyH P md ops Q (fun V => Below W0.heap.size W0 V) (r + s + 1 + n) listed { tmps := l.toArray, defers := ds } w := by
  refine wpAnyH_stageE (Φ := fun k listed a w => ∃ i p, StM (fun b => .pointer (some ⟨b, 0, none⟩)) zc t d1 cd V L l ds W0 n (r + s + 1 + n) k listed a w i p) ?_ (r + s + 1 + n) listed _ w ⟨0, none, ⟨by omega, by simp [one?], hlisted, rfl, hw, FreshZ.none⟩⟩
  rintro k listed a w ⟨i, p, I⟩
  obtain ⟨hi2, hk, hli, ha, hb, fp⟩ := I
  subst hli ha
  unfold chkR at hchk
  simp only [Bool.and_eq_true, decide_eq_true_eq] at hchk
  obtain ⟨⟨hchk, hE⟩, hE2⟩ := hchk
  have hone : one? p ≤ 1 := by unfold one?; split <;> omega
  by_cases hin : i = n
  · subst hin
    refine Or.inl ?_
    cases p with
    | some b1 =>
      have e : k = r + s := by simp [one?] at hk; omega
      subst e
      exact hq1 w b1 hb (hend w b1 hb (fp b1 rfl).1 (fp b1 rfl).2)
    | none =>
      have e : k = r + 1 + s := by simp [one?] at hk; omega
      subst e
      refine hq0 w hb ?_
      refine wpAnyH_ready hE (by simp) ?_
      intro j hj
      rw [List.mem_singleton] at hj
      subst hj
      refine h1 _ w _ ⟨hb.alloc hb.size _, ?_⟩
      rw [hE2]
      have hf := FreshZ.new (zc := zc) (t := t) hb.size
      exact hend _ _ (hb.alloc hb.size _) (hf _ rfl).1 (hf _ rfl).2
  · have hlt : i < n := by omega
    have hbb : ∀ b : Bool, b ∈ [false, true] := fun b => by cases b <;> simp
    have g := List.all_eq_true.1 (List.all_eq_true.1 hchk i (List.mem_range.2 hlt)) p.isSome (hbb _)
    simp only [Bool.and_eq_true, decide_eq_true_eq] at g
    obtain ⟨⟨⟨g1, g2⟩, g3⟩, g4⟩ := g
    obtain ⟨k', rfl⟩ : ∃ k', k = k' + 1 := ⟨k - 1, by omega⟩
    refine Or.inr ⟨k', rfl, not_isEmpty g1, fun j hj => ?_⟩
    have g6 := List.all_eq_true.1 g2 j hj
    simp only [Bool.or_eq_true, Bool.and_eq_true, beq_iff_eq, Bool.not_eq_true'] at g6
    rcases g6 with rfl | ⟨rfl, hn⟩
    · refine hc i hlt _ w _ hb (fun x x1 => TM_get x1) (fun w' hb' => ⟨hb.trans (hb'.mono hb.size), i + 1, p, ⟨hlt, by omega, g3, by rw [setM_set (hcd i hlt)]; rfl, hb.trans (hb'.mono hb.size), fp.call hb'⟩⟩)
    · have e : p = none := by cases p with | none => rfl | some _ => cases hn
      subst e
      refine h1 _ w _ ⟨hb.alloc hb.size _, i, some w.heap.size, ⟨hi2, by simp [one?] at hk ⊢; omega, g4, rfl, hb.alloc hb.size _, FreshZ.new hb.size⟩⟩

end Go.Proofs.YtppijhcfodccfaaGreat

namespace Go.Proofs.YtppijhcfodccfaaGreat.Q4
open Go.RowKit Go.Shelf

abbrev K := Nat × Nat

/-- The cells of an element, of a number. -/
noncomputable def ev (m : Nat) (x : K) : Array Value := Classical.choose (⟨_, rfl⟩ : ∃ C : Array Value, C = P4.ev m x.1 ++ P4.ev m x.2)

theorem ev_eq (m : Nat) (x : K) : ev m x = P4.ev m x.1 ++ P4.ev m x.2 := Classical.choose_spec (⟨_, rfl⟩ : ∃ C : Array Value, C = P4.ev m x.1 ++ P4.ev m x.2)

noncomputable def nv (x : K) : Array Value := Classical.choose (⟨_, rfl⟩ : ∃ C : Array Value, C = P4.nv x.1 ++ P4.nv x.2)

theorem nv_eq (x : K) : nv x = P4.nv x.1 ++ P4.nv x.2 := Classical.choose_spec (⟨_, rfl⟩ : ∃ C : Array Value, C = P4.nv x.1 ++ P4.nv x.2)

def Fits (x : K) : Prop := P4.Fits x.1 ∧ P4.Fits x.2

def k0 : K := (0, 0)

def k1 : K := (1, 0)

theorem ev_size (m : Nat) (x : K) : (ev m x).size = 2 * 4 := by rw [ev_eq, Array.size_append, P4.ev_size, P4.ev_size]

theorem nv_size (x : K) : (nv x).size = 2 * 4 := by rw [nv_eq, Array.size_append, P4.nv_size, P4.nv_size]

theorem all_app {A B : Array Value} (h1 : A.all (·.oneCell') = true) (h2 : B.all (·.oneCell') = true) : (A ++ B).all (·.oneCell') = true := by
  rw [Array.all_append, h1, h2]; rfl

theorem ev_one (m : Nat) (x : K) : (ev m x).all (·.oneCell') = true := by rw [ev_eq]; exact all_app (P4.ev_one _ _) (P4.ev_one _ _)

theorem nv_one (x : K) : (nv x).all (·.oneCell') = true := by rw [nv_eq]; exact all_app (P4.nv_one _) (P4.nv_one _)

theorem underQ : Tryz.prog.underlying 47 = some (.array 2 32) := by kernel_rfl

theorem infoQ {C : Array Value} (h : C.size = 2 * 4) : (Tryz.prog.info? 47).map (·.size) = some C.size := by rw [h]; kernel_rfl

section
variable {w : World} {b t m : Nat} {x : K}
theorem nv_0 (h : w.heap[b]? = some (.cells (nv x) t (0, 0))) : w.rangeAt b 0 (P4.nv x.1).toList := by
  refine range_mid (A := #[]) (C := P4.nv x.2) (t := t) ?_ rfl
  rw [h, nv_eq, Array.empty_append]

theorem nv_1 (h : w.heap[b]? = some (.cells (nv x) t (0, 0))) : w.rangeAt b 4 (P4.nv x.2).toList := by
  refine range_mid (A := P4.nv x.1) (C := #[]) (t := t) ?_ (P4.nv_size _)
  rw [h, nv_eq, Array.append_empty]

end

theorem build_arr {P : Program} {t e n s : Nat} {w : World} {z cells : Array Value} {parts : Array (Nat × Value)} (hz : (zeroValue t).run P w = .ok (.agg z) w) (hu : (underlying t).run P w = .ok (.array n e) w)
    (hp : (sizeOf e).run P w = .ok s w) (hf : Instr.fill (fun i => some (i * s, s)) z parts.toList = some cells) : (Instr.build t parts).run P w = .ok (.agg cells) w := by
  have hc : (Value.agg z).cells = z := rfl
  unfold Instr.build
  simp only [Sem.run_bind, hz, hu, hp, hc, Result.andThen, hf, Sem.run_pure]

theorem build_q {X Y : Array Value} (hX : X.size = 4) (hY : Y.size = 4) (w : World) : (Instr.build 47 #[(0, .agg X), (1, .agg Y)]).run Tryz.prog w = .ok (.agg (X ++ Y)) w := by
  refine build_arr (e := 32) (n := 2) (s := 4) (z := #[] ++ (Array.replicate 4 (.int .u64 0) ++ Array.replicate 4 (.int .u64 0))) (by kernel_rfl) (by kernel_rfl) (by kernel_rfl) ?_
  rw [fill_cons (X := X) rfl (off := 0) (size := 4) rfl hX rfl (by simp), Array.empty_append]
  have e : X ++ Array.replicate 4 (Value.int .u64 0) = X ++ (Array.replicate 4 (.int .u64 0) ++ #[]) := by rw [Array.append_empty]
  rw [e, fill_cons (X := Y) rfl (off := 4) (size := 4) rfl hY hX (by simp), Array.append_empty]
  rfl

theorem bd_e (m : Nat) (a b : Nat) (w : World) : (Instr.build 47 #[(0, .agg (P4.ev m a)), (1, .agg (P4.ev m b))]).run Tryz.prog w = .ok (.agg (ev m (a, b))) w := by
  rw [ev_eq]
  exact build_q (P4.ev_size _ _) (P4.ev_size _ _) w

theorem bd_n (a b : Nat) (w : World) : (Instr.build 47 #[(0, .agg (P4.nv a)), (1, .agg (P4.nv b))]).run Tryz.prog w = .ok (.agg (nv (a, b))) w := by
  rw [nv_eq]
  exact build_q (P4.nv_size _) (P4.nv_size _) w

abbrev FOK (w : World) (p m : Nat) : Prop := W4.Good w p m

/-- The ring that the field stands on. -/
structure RAt (w : World) (p m : Nat) : Prop where
  ok : FOK w p m
  plt : p < w.heap.size

theorem RAt.below {w w' : World} {p m : Nat} (h : RAt w p m) (hb : Below w.heap.size w w') : RAt w' p m := ⟨h.ok.of_same (hb.block _ h.plt), Nat.lt_of_lt_of_le h.plt hb.size⟩

theorem RAt.kq {W V : World} {R0 n ty p m : Nat} (h : RAt W p m) (hS : KQ W R0 n ty V) (h1 : p ≠ R0) : RAt V p m := ⟨h.ok.of_same (hS.same _ h.plt h1), Nat.lt_of_lt_of_le h.plt hS.size⟩

end Go.Proofs.YtppijhcfodccfaaGreat.Q4
