/-
  A point, so many times.
-/
import Derived.Test.YtppijhcfodccfaaGreatCurveNoneC18
namespace Go.Proofs.YtppijhcfodccfaaGreat.P4
open Go.RowKit Go.Shelf

attribute [local go_sem] Oper.semAt_some

theorem scS_size (m : Nat) (s : T3) : (scS m s).size = 3 * 4 := sc_size _ _ _ _

theorem scS_one (m : Nat) (s : T3) : (scS m s).all (·.oneCell') = true := sc_one _ _ _ _

theorem below_putObj {B l : Nat} {W V : World} {o : Obj} (h : Below B W V) (hl : B ≤ l) : Below B W (V.putObj l o) :=
  ⟨h.os, h.tape, h.output, by rw [show (V.putObj l o).heap.size = V.heap.size by simp [World.putObj]]; exact h.size, fun k hk => (World.putObj_heap_other (by omega)).trans (h.block k hk)⟩

theorem KQ.putObj {W V : World} {R0 n ty l : Nat} {o : Obj} (h : KQ W R0 n ty V) (hl : W.heap.size ≤ l) (hR : R0 < l) : KQ W R0 n ty (V.putObj l o) := by
  obtain ⟨g, hg, hn⟩ := h.res
  exact ⟨fun b h1 h2 => (World.putObj_heap_other (by omega)).trans (h.same b h1 h2), below_putObj h.below (by omega), g, (World.putObj_heap_other (by omega)).trans hg, hn⟩

theorem underWd : Tryz.prog.underlying 65 = some (.array 4 27) := by kernel_rfl

theorem infoWd {C : Array Value} (h : C.size = 4) : (Tryz.prog.info? 65).map (·.size) = some C.size := by rw [h]; kernel_rfl

/-- A call of which everything is told. -/
theorem wp_callR {P : Program} {op : Oper} {l : List Value} {ds : List Deferred} {w w' : World} {K : Act → World → Prop} {Q : Exit → Act → World → Prop} (args : Array Operand) (tys : Array TypeId) (d : Nat) {f : Nat} (ho : op.op = .call { callee := .value (.func f), args := args, argTypes := tys }) (hd : op.dst = some d) {av : Array Value}
    (hx : args.map (Act.eval { tmps := l.toArray, defers := ds }) = av) (hm : ∀ av w, (callFunc f av).run P w = .ok (.enter f av) w) {v : Value} (hc : Calls P f av w fun e w'' => e = .returned v ∧ w'' = w')
    (h : K { tmps := (l.set d v).toArray, defers := ds } w') : op.wp P { tmps := l.toArray, defers := ds } w K Q := by
  unfold Oper.wp execOp
  have he : (do let d ← resolve (Act.eval { tmps := l.toArray, defers := ds }) { callee := .value (.func f), args := args, argTypes := tys } op.type; invoke d.target d.args).run P w = .ok (.enter f av) w := by
    have hf : Act.eval { tmps := l.toArray, defers := ds } (.func f) = .func (.func f) #[] #[] := rfl
    simp only [resolve, invoke, Deferred.ofValue, hf, Sem.run_bind, Sem.run_pure, Result.andThen, hx]
    simp [hm]
  simp only [ho]
  rw [he]
  refine hc.mono ?_
  rintro e w'' ⟨rfl, rfl⟩
  show K _ _
  rw [hd, put_list]
  exact h

set_option maxHeartbeats 4000000 in
set_option maxRecDepth 100000 in
theorem times_inf {w : World} {g p m : Nat} {b : K} (hG : GAt w g p m b) (x y : K) (k : Nat) :
    Calls Tryz.prog 169 #[.pointer (some ⟨g, 0, none⟩), .agg (pt x y true), .agg (W4.cs (limb k))] w fun e w' => e = .returned (.agg (sc m k1 k1 k0)) ∧ Below w.heap.size w w' := by
  have hg := hG.glt
  have hp := hG.plt
  have HG9 := hideP hG
  clear hG
  refine (callsIn_wide (n := 6)).1 ?_
  refine callsIn_of_wp_marks Tryz.func169 rfl trivial ?_ rfl
  simp only [Tryz.ntmps169, List.size_toArray, List.length_cons, List.length_nil, Nat.reduceAdd, Nat.reduceSub, Array.replicate_succ, Array.replicate_zero, List.push_toArray, List.append_toArray, List.nil_append, List.cons_append]
  refine wpIn_wide.2 ?_
  refine wp_seqH (fun K0 HK0 => ?_)
  go_wp2_with fail
  refine HK0.out _ _ ?_
  clear HK0 K0
  refine at_world (fun W0 hW0 => ?_)
  have hb0 : W0.heap[w.heap.size]? = some (.cells #[.pointer (some ⟨g, 0, none⟩)] 114 (0, 0)) := by
    rw [hW0]
    exact ((heap_old _ _ (by simp <;> omega)).trans ((heap_old _ _ (by simp <;> omega)).trans ((heap_old _ _ (by simp <;> omega)).trans (heap_new _ _))))
  have hb1 : W0.heap[w.heap.size + 1]? = some (.cells (pt x y true) 125 (0, 0)) := by
    rw [hW0]
    exact ((heap_old _ _ (by simp <;> omega)).trans ((heap_old _ _ (by simp <;> omega)).trans (heap_new1 _ _ _)))
  have hb2 : W0.heap[w.heap.size + 1 + 1]? = some (.cells (W4.cs (limb k)) 65 (0, 0)) := by
    rw [hW0]
    exact ((heap_old _ _ (by simp <;> omega)).trans (heap_new2 _ _ _ _))
  have hbr : ∃ C : Array Value, W0.heap[w.heap.size + 1 + 1 + 1]? = some (.cells C 264 (0, 0)) ∧ C.size = 3 * 4 := by
    rw [hW0]
    exact ⟨_, heap_new3 _ _ _ _ _, rfl⟩
  have hbw : Below w.heap.size w W0 := by
    rw [hW0]
    repeat first | exact Below.refl _ _ | (refine Below.alloc ?_ (by simp <;> omega) _)
  clear hW0
  have HG := hideP (HG9.out.below hbw)
  clear HG9
  have HBW := hideP hbw
  clear hbw
  generalize hN : w.heap.size = N at *
  clear hN
  generalize hB1 : N + 1 = B1 at *
  generalize hB2 : B1 + 1 = B2 at *
  generalize hB3 : B2 + 1 = B3 at *
  have o1 : N < B1 := by omega
  have o2 : B1 < B2 := by omega
  have o3 : B2 < B3 := by omega
  clear hB3 hB2 hB1
  have H0 := hideP hb0
  have H1 := hideP hb1
  have H2 := hideP hb2
  clear hb0 hb1 hb2
  obtain ⟨Cr, hbr, s_R⟩ := hbr
  have l3 := lt_of_block hbr
  have Hr := hideP hbr
  clear hbr
  -- s := g.nowhere()
  refine wp_seqH (fun K1 HK1 => ?_)
  refine wp_region_list ?_
  refine wpList_oper rfl (fun K hK => ?_)
  have hf := blk_cell H0.out (o := 0) rfl
  go_simp
  refine hK _ _ ?_
  clear hK K hf
  refine wpList_oper rfl (fun K hK => ?_)
  refine wp_callD (av := #[.pointer (some ⟨g, 0, none⟩)]) _ _ 11 rfl rfl (by simp only [List.map_toArray, List.map_cons, List.map_nil]; rfl) (enters_of Tryz.func228 (by kernel_rfl) rfl) (nowhere_any HG.out) ?_
  intro x1 hbc
  refine hK _ _ ?_
  clear hK K
  simp only [List.set_cons_succ, List.set_cons_zero]
  refine wpList_oper rfl (fun K hK => ?_)
  go_simp
  refine hK _ _ ?_
  clear hK K
  refine at_worldL (fun x2 hx2 => ?_)
  have hb7 : ∃ C : Array Value, x2.heap[x1.heap.size]? = some (.cells C 264 (0, 0)) ∧ C.size = 3 * 4 := by
    rw [hx2]
    exact ⟨_, heap_new _ _, rfl⟩
  have hbe : Below x1.heap.size x1 x2 := by
    rw [hx2]
    exact (Below.refl _ _).alloc (Nat.le_refl _) _
  have hsz : x2.heap.size = x1.heap.size + 1 := by rw [hx2]; simp
  clear hx2
  obtain ⟨C7, hb7, s_7⟩ := hb7
  have o7 : W0.heap.size ≤ x1.heap.size := hbc.size
  have hB12 : Below W0.heap.size W0 x2 := hbc.trans (hbe.mono o7)
  generalize hL : x1.heap.size = L at *
  clear hbc hbe hL
  have hQ := KQ.start hb7 s_7
  refine wpList_store_midD rfl 264 (.tmp 7) (.tmp 11) rfl rfl L 0 (sc m k1 k1 k0) rfl rfl (hQ.there (sc_size _ _ _ _)) (infoSc (sc_size _ _ _ _)) (sc_one _ _ _ _) ?_
  have g7 := hQ.put (C := sc m k1 k1 k0) (sc_size _ _ _ _)
  have hQ2 := hQ.store (C := sc m k1 k1 k0) (sc_size _ _ _ _)
  generalize World.setCells x2 L 0 (sc m k1 k1 k0).toList = x3 at g7 hQ2 ⊢
  have hB3 : Below W0.heap.size W0 x3 := hB12.trans (hQ2.below.mono o7)
  clear hQ hQ2 hb7 hB12
  clear hsz
  refine wpList_nil ?_
  refine HK1.out _ _ ?_
  clear HK1 K1
  have l7 := lt_of_block g7
  have G7 := hideP g7
  clear g7
  -- not at infinity
  refine wp_seqH (fun K2 HK2 => ?_)
  refine wp_seqH (fun K1 HK1 => ?_)
  refine wp_region_list ?_
  refine wpList_oper rfl (fun K hK => ?_)
  go_simp
  refine hK _ _ ?_
  clear hK K
  refine wpList_oper rfl (fun K hK => ?_)
  have hf := pt_i ((hB3.block _ (lt_of_block H1.out)).trans H1.out)
  go_simp
  refine hK _ _ ?_
  clear hK K hf
  refine wpList_nil ?_
  refine HK1.out _ _ ?_
  clear HK1 K1
  refine wp_cond_true rfl ?_
  refine wp_seqH (fun K1 HK1 => ?_)
  refine wp_region_list ?_
  refine wpList_load_midD rfl 264 (.tmp 7) 14 rfl rfl L 0 (sc m k1 k1 k0) rfl _ (rangeOf G7.out) underSc rfl (infoSc (sc_size _ _ _ _)) ?_
  simp only [List.set_cons_succ, List.set_cons_zero]
  have hr3 := (hB3.block _ l3).trans Hr.out
  have hQ := KQ.start hr3 s_R
  refine wpList_store_midD rfl 264 (.tmp 6) (.tmp 14) rfl rfl B3 0 (sc m k1 k1 k0) rfl rfl (hQ.there (sc_size _ _ _ _)) (infoSc (sc_size _ _ _ _)) (sc_one _ _ _ _) ?_
  have g6 := hQ.put (C := sc m k1 k1 k0) (sc_size _ _ _ _)
  have hQ2 := hQ.store (C := sc m k1 k1 k0) (sc_size _ _ _ _)
  generalize World.setCells x3 B3 0 (sc m k1 k1 k0).toList = W6 at g6 hQ2 ⊢
  refine wpList_nil ?_
  refine HK1.out _ _ ?_
  refine wp_ret ?_
  refine then_ret ?_
  exact ⟨.agg (sc m k1 k1 k0), results_cell (p := ⟨B3, 0, none⟩) rfl rfl (loadC _ B3 0 264 (sc m k1 k1 k0) _ (rangeOf g6) underSc rfl (infoSc (sc_size _ _ _ _))), rfl, HBW.out.trans ((hB3.mono (by omega)).trans (hQ2.below.mono (by omega)))⟩

set_option maxHeartbeats 4000000 in
set_option maxRecDepth 100000 in
theorem times_any {w : World} {g p m : Nat} {b : K} (hG : GAt w g p m b) (x y : K) (hx : Fits x) (hy : Fits y) (k : Nat) (hk : k < 2 ^ 256) :
    Calls Tryz.prog 169 #[.pointer (some ⟨g, 0, none⟩), .agg (pt x y false), .agg (W4.cs (limb k))] w fun e w' => e = .returned (.agg (scS m (timesS m (x, y) k))) ∧ Below w.heap.size w w' := by
  have hg := hG.glt
  have hp := hG.plt
  have HG9 := hideP hG
  have HK := hideP hk
  clear hG hk
  refine (callsIn_wide (n := 6)).1 ?_
  refine callsIn_of_wp_marks Tryz.func169 rfl trivial ?_ rfl
  simp only [Tryz.ntmps169, List.size_toArray, List.length_cons, List.length_nil, Nat.reduceAdd, Nat.reduceSub, Array.replicate_succ, Array.replicate_zero, List.push_toArray, List.append_toArray, List.nil_append, List.cons_append]
  refine wpIn_wide.2 ?_
  refine wp_seqH (fun K0 HK0 => ?_)
  go_wp2_with fail
  refine HK0.out _ _ ?_
  clear HK0 K0
  refine at_world (fun W0 hW0 => ?_)
  have hb0 : W0.heap[w.heap.size]? = some (.cells #[.pointer (some ⟨g, 0, none⟩)] 114 (0, 0)) := by
    rw [hW0]
    exact ((heap_old _ _ (by simp <;> omega)).trans ((heap_old _ _ (by simp <;> omega)).trans ((heap_old _ _ (by simp <;> omega)).trans (heap_new _ _))))
  have hb1 : W0.heap[w.heap.size + 1]? = some (.cells (pt x y false) 125 (0, 0)) := by
    rw [hW0]
    exact ((heap_old _ _ (by simp <;> omega)).trans ((heap_old _ _ (by simp <;> omega)).trans (heap_new1 _ _ _)))
  have hb2 : W0.heap[w.heap.size + 1 + 1]? = some (.cells (W4.cs (limb k)) 65 (0, 0)) := by
    rw [hW0]
    exact ((heap_old _ _ (by simp <;> omega)).trans (heap_new2 _ _ _ _))
  have hbr : ∃ C : Array Value, W0.heap[w.heap.size + 1 + 1 + 1]? = some (.cells C 264 (0, 0)) ∧ C.size = 3 * 4 := by
    rw [hW0]
    exact ⟨_, heap_new3 _ _ _ _ _, rfl⟩
  have hbw : Below w.heap.size w W0 := by
    rw [hW0]
    repeat first | exact Below.refl _ _ | (refine Below.alloc ?_ (by simp <;> omega) _)
  clear hW0
  have HG := hideP (HG9.out.below hbw)
  clear HG9
  have HBW := hideP hbw
  clear hbw
  generalize hN : w.heap.size = N at *
  clear hN
  generalize hB1 : N + 1 = B1 at *
  generalize hB2 : B1 + 1 = B2 at *
  generalize hB3 : B2 + 1 = B3 at *
  have o1 : N < B1 := by omega
  have o2 : B1 < B2 := by omega
  have o3 : B2 < B3 := by omega
  clear hB3 hB2 hB1
  have H0 := hideP hb0
  have H1 := hideP hb1
  have H2 := hideP hb2
  clear hb0 hb1 hb2
  obtain ⟨Cr, hbr, s_R⟩ := hbr
  have l3 := lt_of_block hbr
  have Hr := hideP hbr
  clear hbr
  -- s := g.nowhere()
  refine wp_seqH (fun K1 HK1 => ?_)
  refine wp_region_list ?_
  refine wpList_oper rfl (fun K hK => ?_)
  have hf := blk_cell H0.out (o := 0) rfl
  go_simp
  refine hK _ _ ?_
  clear hK K hf
  refine wpList_oper rfl (fun K hK => ?_)
  refine wp_callD (av := #[.pointer (some ⟨g, 0, none⟩)]) _ _ 11 rfl rfl (by simp only [List.map_toArray, List.map_cons, List.map_nil]; rfl) (enters_of Tryz.func228 (by kernel_rfl) rfl) (nowhere_any HG.out) ?_
  intro x1 hbc
  refine hK _ _ ?_
  clear hK K
  simp only [List.set_cons_succ, List.set_cons_zero]
  refine wpList_oper rfl (fun K hK => ?_)
  go_simp
  refine hK _ _ ?_
  clear hK K
  refine at_worldL (fun x2 hx2 => ?_)
  have hb7 : ∃ C : Array Value, x2.heap[x1.heap.size]? = some (.cells C 264 (0, 0)) ∧ C.size = 3 * 4 := by
    rw [hx2]
    exact ⟨_, heap_new _ _, rfl⟩
  have hbe : Below x1.heap.size x1 x2 := by
    rw [hx2]
    exact (Below.refl _ _).alloc (Nat.le_refl _) _
  have hsz : x2.heap.size = x1.heap.size + 1 := by rw [hx2]; simp
  clear hx2
  obtain ⟨C7, hb7, s_7⟩ := hb7
  have o7 : W0.heap.size ≤ x1.heap.size := hbc.size
  have hB12 : Below W0.heap.size W0 x2 := hbc.trans (hbe.mono o7)
  generalize hL : x1.heap.size = L at *
  clear hbc hbe hL
  have hQ := KQ.start hb7 s_7
  refine wpList_store_midD rfl 264 (.tmp 7) (.tmp 11) rfl rfl L 0 (sc m k1 k1 k0) rfl rfl (hQ.there (sc_size _ _ _ _)) (infoSc (sc_size _ _ _ _)) (sc_one _ _ _ _) ?_
  have g7 := hQ.put (C := sc m k1 k1 k0) (sc_size _ _ _ _)
  have hQ2 := hQ.store (C := sc m k1 k1 k0) (sc_size _ _ _ _)
  generalize World.setCells x2 L 0 (sc m k1 k1 k0).toList = x3 at g7 hQ2 ⊢
  have hB3 : Below W0.heap.size W0 x3 := hB12.trans (hQ2.below.mono o7)
  clear hQ hQ2 hb7 hB12
  clear hsz
  refine wpList_nil ?_
  refine HK1.out _ _ ?_
  clear HK1 K1
  have l7 := lt_of_block g7
  have G7 := hideP g7
  clear g7
  -- not at infinity
  refine wp_seqH (fun K2 HK2 => ?_)
  refine wp_seqH (fun K1 HK1 => ?_)
  refine wp_region_list ?_
  refine wpList_oper rfl (fun K hK => ?_)
  go_simp
  refine hK _ _ ?_
  clear hK K
  refine wpList_oper rfl (fun K hK => ?_)
  have hf := pt_i ((hB3.block _ (lt_of_block H1.out)).trans H1.out)
  go_simp
  refine hK _ _ ?_
  clear hK K hf
  refine wpList_nil ?_
  refine HK1.out _ _ ?_
  clear HK1 K1
  refine wp_cond_false rfl ?_
  refine wp_skip ?_
  refine HK2.out _ _ ?_
  clear HK2 K2
  -- q := g.at(p)
  refine wp_seqH (fun K1 HK1 => ?_)
  refine wp_region_list ?_
  refine wpList_oper rfl (fun K hK => ?_)
  have hf := blk_cell ((hB3.block _ (lt_of_block H0.out)).trans H0.out) (o := 0) rfl
  go_simp
  refine hK _ _ ?_
  clear hK K hf
  refine wpList_load_midD rfl 125 (.tmp 4) 16 rfl rfl B1 0 (pt x y false) rfl _ (rangeOf ((hB3.block _ (lt_of_block H1.out)).trans H1.out)) underPt rfl (infoPt (pt_size _ _ _)) ?_
  simp only [List.set_cons_succ, List.set_cons_zero]
  refine wpList_oper rfl (fun K hK => ?_)
  refine wp_call2D (.tmp 15) (.tmp 16) _ 17 rfl rfl rfl rfl (enters_of Tryz.func182 (by kernel_rfl) rfl) (at_any (HG.out.below hB3) x y false hx hy) ?_
  intro x4 hbc
  refine hK _ _ ?_
  clear hK K
  simp only [List.set_cons_succ, List.set_cons_zero]
  refine wpList_oper rfl (fun K hK => ?_)
  go_simp
  refine hK _ _ ?_
  clear hK K
  refine at_worldL (fun x5 hx5 => ?_)
  have hb8 : ∃ C : Array Value, x5.heap[x4.heap.size]? = some (.cells C 262 (0, 0)) ∧ C.size = 2 * 4 := by
    rw [hx5]
    exact ⟨_, heap_new _ _, rfl⟩
  have hbe : Below x4.heap.size x4 x5 := by
    rw [hx5]
    exact (Below.refl _ _).alloc (Nat.le_refl _) _
  clear hx5
  obtain ⟨C8, hb8, s_8⟩ := hb8
  have o8 : x3.heap.size ≤ x4.heap.size := hbc.size
  have hB12 : Below x3.heap.size x3 x5 := hbc.trans (hbe.mono o8)
  generalize hM : x4.heap.size = M at *
  clear hbc hbe hM
  have hQ := KQ.start hb8 s_8
  refine wpList_store_midD rfl 262 (.tmp 8) (.tmp 17) rfl rfl M 0 (pl m x y) rfl rfl (hQ.there (pl_size _ _ _)) (infoPl (pl_size _ _ _)) (pl_one _ _ _) ?_
  have g8 := hQ.put (C := pl m x y) (pl_size _ _ _)
  have hQ2 := hQ.store (C := pl m x y) (pl_size _ _ _)
  generalize World.setCells x5 M 0 (pl m x y).toList = x6 at g8 hQ2 ⊢
  have hB6 : Below x3.heap.size x3 x6 := hB12.trans (hQ2.below.mono o8)
  clear hQ hQ2 hb8 hB12
  refine wpList_nil ?_
  refine HK1.out _ _ ?_
  clear HK1 K1
  have l8 := lt_of_block g8
  -- bits(k)
  refine wp_seqH (fun K3 HK3 => ?_)
  refine wp_seqH (fun K1 HK1 => ?_)
  refine wp_region_list ?_
  have hB36 : Below W0.heap.size W0 x6 := hB3.trans (hB6.mono hB3.size)
  refine wpList_load_midD rfl 65 (.tmp 5) 18 rfl rfl B2 0 (W4.cs (limb k)) rfl _ (rangeOf ((hB36.block _ (lt_of_block H2.out)).trans H2.out)) underWd rfl (infoWd (W4.cs_size _)) ?_
  simp only [List.set_cons_succ, List.set_cons_zero]
  refine wpList_oper rfl (fun K hK => ?_)
  refine wp_callR (av := #[.agg (W4.cs (limb k))]) _ _ 19 rfl rfl (by simp only [List.map_toArray, List.map_cons, List.map_nil]; rfl) (enters_of Tryz.func229 (by kernel_rfl) rfl) (bits_any k x6) ?_
  refine hK _ _ ?_
  clear hK K
  simp only [List.set_cons_succ, List.set_cons_zero]
  refine wpList_nil ?_
  refine HK1.out _ _ ?_
  clear HK1 K1
  refine at_world (fun W7 hW7 => ?_)
  have hrow : RowK x6.heap.size k W7 := by
    rw [hW7]
    exact heap_new _ _
  have hb67 : Below x6.heap.size x6 W7 := by
    rw [hW7]
    exact (Below.refl _ _).alloc (Nat.le_refl _) _
  clear hW7
  have hB37 : Below x3.heap.size x3 W7 := hB6.trans (hb67.mono hB6.size)
  have hB07 : Below W0.heap.size W0 W7 := hB3.trans (hB37.mono hB3.size)
  have h0 := (hB07.block _ (lt_of_block H0.out)).trans H0.out
  have hr := (hB07.block _ l3).trans Hr.out
  have h7 := (hB37.block _ l7).trans G7.out
  have h8 := (hb67.block _ l8).trans g8
  have hG7 := HG.out.below hB07
  have hbw7 : Below N w W7 := HBW.out.trans (hB07.mono (by omega))
  have nLQ : L < x6.heap.size := Nat.lt_of_lt_of_le l7 hB6.size
  have nML : L < M := Nat.lt_of_lt_of_le l7 o8
  generalize hQN : x6.heap.size = QN at *
  have l9 : QN < W7.heap.size := lt_of_block hrow
  have l7' : L < W7.heap.size := by omega
  have l8' : M < W7.heap.size := by omega
  have l3' : B3 < W7.heap.size := by omega
  have lN' : N < W7.heap.size := by omega
  have n3 : B3 < L := by omega
  have nN : N < L := by omega
  clear HG HBW H0 H1 H2 Hr G7 g8 hB3 hB6 hB36 hb67 hB37 hB07 l7 l8 l3 hQN o7 o8
  refine wp_block ?_
  refine (wpIn_wide (n := 6)).1 ?_
  refine range_seq (n := 6) (by omega) rfl (enters_of Tryz.func251 (by kernel_rfl) rfl) (fun q => #[.bool (bitq k q)]) (bl k) (fun _ => rfl) (KpK QN k) (bits_gives _ (by omega) QN k HK.out W7 hrow)
    (fun j W => W.heap[L]? = some (.cells (scS m (timesJ m (x, y) k j)) 264 (0, 0)) ∧ KQ W7 L (3 * 4) 264 W) (fun _ _ => False)
    (fun j V V' h hb => ⟨(hb.block _ (lt_of_block h.1)).trans h.1, h.2.call hb⟩) (fun _ _ _ h _ => h)
    (fun j V l' o o' h hl _ _ => ⟨(World.putObj_heap_other (by omega)).trans h.1, KQ.putObj h.2 hl (by omega)⟩) (fun _ _ _ _ _ h _ _ _ => h)
    (fun V V' l' o o' h hl _ _ hk => (World.putObj_heap_other (by omega)).trans (h hk)) ?h0 ?round ?done ?stop
  case h0 => exact ⟨h7, KQ.start h7 (scS_size m (timesJ m (x, y) k 0))⟩
  case stop => exact fun _ _ _ _ h _ => h.elim
  case round =>
    rintro l' j W hj ⟨hw7, hkq⟩ hl' ⟨rr, hlr⟩
    have HALL := hideP (And.intro hw7 (And.intro hkq hlr))
    clear hw7 hkq hlr
    gi_wp2
    obtain ⟨hw7, hkq, hlr⟩ := HALL.out
    clear HALL
    refine ⟨KeepsFrom.refl _ _, fun r => ?_⟩
    have h72 : (W.putObj l' (.loop r)).heap[L]? = some (.cells (scS m (timesJ m (x, y) k j)) 264 (0, 0)) := (World.putObj_heap_other (by omega)).trans hw7
    have hkq2 : KQ W7 L (3 * 4) 264 (W.putObj l' (.loop r)) := KQ.putObj hkq hl' (by omega)
    have HWW : Hid (∀ b, b < W7.heap.size → (W.putObj l' (.loop r)).heap[b]? = W.heap[b]?) := fun b hb => World.putObj_heap_other (by omega)
    generalize W.putObj l' (.loop r) = W2 at *
    have hst : timesJ m (x, y) k (j + 1) = stepS m (x, y) (bitq k j) (timesJ m (x, y) k j) := rfl
    generalize timesJ m (x, y) k j = t at *
    generalize bitq k j = bit at *
    have HST := hideP hst
    have HW7 := hideP hw7
    clear hst hw7 hlr hj
    refine wpIn_block ?_
    refine wpIn_seq ?_
    refine regionIn_list (fun ⟨_, _, h⟩ => h) rfl ?_
    refine wpList_oper rfl (fun K hK => ?_)
    have hf := blk_cell (hkq2.box h0 (by omega)) (o := 0) rfl
    go_simp
    refine hK _ _ ?_
    clear hK K hf
    refine wpList_load_midD rfl 264 (.tmp 7) 22 rfl rfl L 0 (scS m t) rfl _ (rangeOf h72) underSc rfl (infoSc (scS_size _ _)) ?_
    simp only [List.set_cons_succ, List.set_cons_zero]
    refine wpList_oper rfl (fun K hK => ?_)
    refine wp_call2D (.tmp 21) (.tmp 22) _ 23 rfl rfl rfl rfl (enters_of Tryz.func230 (by kernel_rfl) rfl) (double_S (hG7.kq hkq2 (by omega) (by omega)) t) ?_
    intro y1 hbc
    refine hK _ _ ?_
    clear hK K
    simp only [List.set_cons_succ, List.set_cons_zero]
    have hQ := (KQ.start h72 (scS_size m t)).call hbc
    rw [← scS_red m (dblS m t)]
    refine wpList_store_midD rfl 264 (.tmp 7) (.tmp 23) rfl rfl L 0 (scS m (red m (dblS m t))) rfl rfl (hQ.there (scS_size _ _)) (infoSc (scS_size _ _)) (scS_one _ _) ?_
    have g9 := hQ.put (C := scS m (red m (dblS m t))) (scS_size _ _)
    have hQ2 := hQ.store (C := scS m (red m (dblS m t))) (scS_size _ _)
    generalize World.setCells y1 L 0 (scS m (red m (dblS m t))).toList = y2 at g9 hQ2 ⊢
    clear hQ hbc h72 HW7
    have tr : KQ W7 L (3 * 4) 264 y2 := ⟨fun b h1 h2 => (hQ2.same b (Nat.lt_of_lt_of_le h1 hkq2.size) h2).trans (hkq2.same b h1 h2), hkq2.below.trans hQ2.below, hQ2.res⟩
    refine wpList_nil ?_
    refine (?_ : Code.wpIn _ _ _ _ _ _ _)
    refine wpIn_seq ?_
    refine regionIn_list (fun ⟨_, _, h⟩ => h) rfl ?_
    refine wpList_oper rfl (fun K hK => ?_)
    go_simp
    refine hK _ _ ?_
    clear hK K
    refine wpList_nil ?_
    refine (?_ : Code.wpIn _ _ _ _ _ _ _)
    have fin : ∀ (y3 : World), KQ W2 L (3 * 4) 264 y3 → KeepsFrom W7.heap.size W2 y3 ∧ KpK QN k W y3 := fun y3 h3 => by
      refine ⟨⟨h3.size, fun b o hbb ho _ => (h3.same b (lt_of_block ho) (by omega)).trans ho⟩, fun hk => ?_⟩
      exact (h3.same QN (Nat.lt_of_lt_of_le l9 hkq2.size) (by omega)).trans ((HWW.out QN l9).trans hk)
    cases bit with
    | false =>
      refine wpIn_cond_false rfl ?_
      refine wpIn_skip ?_
      refine ⟨(fin _ hQ2).1, (fin _ hQ2).2, ?_, tr⟩
      rw [HST.out, stepS, if_neg (by decide), scS_red, ← scS_red m (dblS m t)]
      exact g9
    | true =>
      refine wpIn_cond_true rfl ?_
      refine regionIn_list (fun ⟨_, _, h⟩ => h) rfl ?_
      refine wpList_oper rfl (fun K hK => ?_)
      have hf := blk_cell (tr.box h0 (by omega)) (o := 0) rfl
      go_simp
      refine hK _ _ ?_
      clear hK K hf
      refine wpList_load_midD rfl 264 (.tmp 7) 26 rfl rfl L 0 (scS m (red m (dblS m t))) rfl _ (rangeOf g9) underSc rfl (infoSc (scS_size _ _)) ?_
      simp only [List.set_cons_succ, List.set_cons_zero]
      refine wpList_load_midD rfl 262 (.tmp 8) 27 rfl rfl M 0 (pl m x y) rfl _ (rangeOf (tr.box h8 (by omega))) underPl rfl (infoPl (pl_size _ _ _)) ?_
      simp only [List.set_cons_succ, List.set_cons_zero]
      refine wpList_oper rfl (fun K hK => ?_)
      refine wp_callD (av := #[.pointer (some ⟨g, 0, none⟩), .agg (scS m (red m (dblS m t))), .agg (pl m x y)]) _ _ 28 rfl rfl (by simp only [List.map_toArray, List.map_cons, List.map_nil]; rfl) (enters_of Tryz.func180 (by kernel_rfl) rfl) (plus_S (hG7.kq tr (by omega) (by omega)) (red m (dblS m t)) (x, y)) ?_
      intro y3 hbc
      refine hK _ _ ?_
      clear hK K
      simp only [List.set_cons_succ, List.set_cons_zero]
      have hQ3 := hQ2.call hbc
      have tr3 := tr.call hbc
      refine wpList_store_midD rfl 264 (.tmp 7) (.tmp 28) rfl rfl L 0 (scS m (plusS m (red m (dblS m t)) (x, y))) rfl rfl (hQ3.there (scS_size _ _)) (infoSc (scS_size _ _)) (scS_one _ _) ?_
      have g10 := hQ3.put (C := scS m (plusS m (red m (dblS m t)) (x, y))) (scS_size _ _)
      have hQ4 := hQ3.store (C := scS m (plusS m (red m (dblS m t)) (x, y))) (scS_size _ _)
      have tr4 := tr3.store (C := scS m (plusS m (red m (dblS m t)) (x, y))) (scS_size _ _)
      generalize World.setCells y3 L 0 (scS m (plusS m (red m (dblS m t)) (x, y))).toList = y4 at g10 hQ4 tr4 ⊢
      refine wpList_nil ?_
      refine ⟨(fin _ hQ4).1, (fin _ hQ4).2, ?_, tr4⟩
      rw [HST.out, stepS, if_pos rfl, scS_red]
      exact g10
  case done =>
    rintro Db W hDb ⟨hw7, hkq⟩ hdef
    show K3 _ _
    refine HK3.out _ _ ?_
    clear HK3 K3
    have hts : timesJ m (x, y) k (bl k) = timesS m (x, y) k := rfl
    rw [hts] at hw7
    generalize timesS m (x, y) k = t at hw7 ⊢
    refine wp_seq ?_
    refine wp_region_list ?_
    refine wpList_load_midD rfl 264 (.tmp 7) 29 rfl rfl L 0 (scS m t) rfl _ (rangeOf hw7) underSc rfl (infoSc (scS_size _ _)) ?_
    simp only [List.set_cons_succ, List.set_cons_zero]
    have hr3 := hkq.box hr (by omega)
    have hQ := KQ.start hr3 s_R
    refine wpList_store_midD rfl 264 (.tmp 6) (.tmp 29) rfl rfl B3 0 (scS m t) rfl rfl (hQ.there (scS_size _ _)) (infoSc (scS_size _ _)) (scS_one _ _) ?_
    have g6 := hQ.put (C := scS m t) (scS_size _ _)
    have hQ2 := hQ.store (C := scS m t) (scS_size _ _)
    generalize World.setCells W B3 0 (scS m t).toList = W6 at g6 hQ2 ⊢
    refine wpList_nil ?_
    refine wp_ret ?_
    have hdef6 := (hQ2.same Db (lt_of_block hdef) (by omega)).trans hdef
    refine ⟨by simp, .inl ⟨_, _, rfl, run_takeDeferred hdef6, ?_⟩⟩
    have hg9 : (W6.putObj Db (.deferred none)).heap[B3]? = some (.cells (scS m t) 264 (0, 0)) := (World.putObj_heap_other (by omega)).trans g6
    refine ⟨.agg (scS m t), results_cell (p := ⟨B3, 0, none⟩) rfl rfl (loadC _ B3 0 264 (scS m t) _ (rangeOf hg9) underSc rfl (infoSc (scS_size _ _))), rfl, ?_⟩
    exact below_putObj (hbw7.trans ((hkq.below.mono (by omega)).trans (hQ2.below.mono (by omega)))) (by omega)

end Go.Proofs.YtppijhcfodccfaaGreat.P4
