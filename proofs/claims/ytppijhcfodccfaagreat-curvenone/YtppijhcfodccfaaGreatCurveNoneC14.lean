/-
  An element and itself, added.
-/
import Derived.Test.YtppijhcfodccfaaGreatCurveNoneC03
import Derived.Test.YtppijhcfodccfaaGreatCurveNoneC13
import Derived.Test.YtppijhcfodccfaaGreatCurveNoneC04
namespace Go.Proofs.YtppijhcfodccfaaGreat.P4
open Go.RowKit Go.Shelf

def zn : Array Value := Array.replicate 4 (.int .u64 0)

theorem zn_size : zn.size = 4 := rfl

theorem zc_size : (#[.int .u64 0, .int .u64 0, .int .u64 0, .int .u64 0] : Array Value).size = 4 := rfl

/-- A place's cells, a scaled point's, a point's. -/
noncomputable def pl (m : Nat) (x y : K) : Array Value := Classical.choose (⟨_, rfl⟩ : ∃ C : Array Value, C = ev m x ++ ev m y)

theorem pl_eq (m : Nat) (x y : K) : pl m x y = ev m x ++ ev m y := Classical.choose_spec (⟨_, rfl⟩ : ∃ C : Array Value, C = ev m x ++ ev m y)

noncomputable def sc (m : Nat) (x y z : K) : Array Value := Classical.choose (⟨_, rfl⟩ : ∃ C : Array Value, C = pl m x y ++ ev m z)

theorem sc_eq (m : Nat) (x y z : K) : sc m x y z = pl m x y ++ ev m z := Classical.choose_spec (⟨_, rfl⟩ : ∃ C : Array Value, C = pl m x y ++ ev m z)

noncomputable def pt (x y : K) (i : Bool) : Array Value := Classical.choose (⟨_, rfl⟩ : ∃ C : Array Value, C = nv x ++ (nv y ++ #[.bool i]))

theorem pt_eq (x y : K) (i : Bool) : pt x y i = nv x ++ (nv y ++ #[.bool i]) := Classical.choose_spec (⟨_, rfl⟩ : ∃ C : Array Value, C = nv x ++ (nv y ++ #[.bool i]))

theorem pl_size (m : Nat) (x y : K) : (pl m x y).size = 2 * 4 := by rw [pl_eq, Array.size_append, ev_size, ev_size]

theorem sc_size (m : Nat) (x y z : K) : (sc m x y z).size = 3 * 4 := by rw [sc_eq, Array.size_append, pl_size, ev_size]

theorem pt_size (x y : K) (i : Bool) : (pt x y i).size = 2 * 4 + 1 := by rw [pt_eq, Array.size_append, Array.size_append, nv_size, nv_size]; rfl

theorem all_append' {A B : Array Value} (h1 : A.all (·.oneCell') = true) (h2 : B.all (·.oneCell') = true) : (A ++ B).all (·.oneCell') = true := by
  rw [Array.all_append, h1, h2]; rfl

theorem pl_one (m : Nat) (x y : K) : (pl m x y).all (·.oneCell') = true := by
  rw [pl_eq]
  exact all_append' (ev_one _ _) (ev_one _ _)

theorem sc_one (m : Nat) (x y z : K) : (sc m x y z).all (·.oneCell') = true := by
  rw [sc_eq]
  exact all_append' (pl_one _ _ _) (ev_one _ _)

theorem pt_one (x y : K) (i : Bool) : (pt x y i).all (·.oneCell') = true := by
  rw [pt_eq]
  exact all_append' (nv_one _) (all_append' (nv_one _) (by simp [Value.oneCell']))

theorem underPl : Tryz.prog.underlying 262 = some (.struct (fsOf (Tryz.prog.underlying 262))) := by kernel_rfl

theorem underSc : Tryz.prog.underlying 264 = some (.struct (fsOf (Tryz.prog.underlying 264))) := by kernel_rfl

theorem underPt : Tryz.prog.underlying 125 = some (.struct (fsOf (Tryz.prog.underlying 125))) := by kernel_rfl

theorem infoPl {C : Array Value} (h : C.size = 2 * 4) : (Tryz.prog.info? 262).map (·.size) = some C.size := by rw [h]; kernel_rfl

theorem infoSc {C : Array Value} (h : C.size = 3 * 4) : (Tryz.prog.info? 264).map (·.size) = some C.size := by rw [h]; kernel_rfl

theorem infoPt {C : Array Value} (h : C.size = 2 * 4 + 1) : (Tryz.prog.info? 125).map (·.size) = some C.size := by rw [h]; kernel_rfl

section
variable {w : World} {b t m : Nat} {x y z : K} {i : Bool}
theorem sc_x (h : w.heap[b]? = some (.cells (sc m x y z) t (0, 0))) : w.rangeAt b 0 (ev m x).toList := by
  refine range_mid (A := #[]) (C := ev m y ++ ev m z) (t := t) ?_ rfl
  rw [h, sc_eq, pl_eq, Array.empty_append, Array.append_assoc]

theorem sc_y (h : w.heap[b]? = some (.cells (sc m x y z) t (0, 0))) : w.rangeAt b 4 (ev m y).toList := by
  refine range_mid (A := ev m x) (C := ev m z) (t := t) ?_ (ev_size _ _)
  rw [h, sc_eq, pl_eq, Array.append_assoc]

theorem sc_z (h : w.heap[b]? = some (.cells (sc m x y z) t (0, 0))) : w.rangeAt b (2 * 4) (ev m z).toList := by
  refine range_mid (A := pl m x y) (C := #[]) (t := t) ?_ (pl_size _ _ _)
  rw [h, sc_eq, Array.append_empty]

theorem sc_pl (h : w.heap[b]? = some (.cells (sc m x y z) t (0, 0))) : w.rangeAt b 0 (pl m x y).toList := by
  refine range_mid (A := #[]) (C := ev m z) (t := t) ?_ rfl
  rw [h, sc_eq, Array.empty_append]

theorem pl_x (h : w.heap[b]? = some (.cells (pl m x y) t (0, 0))) : w.rangeAt b 0 (ev m x).toList := by
  refine range_mid (A := #[]) (C := ev m y) (t := t) ?_ rfl
  rw [h, pl_eq, Array.empty_append]

theorem pl_y (h : w.heap[b]? = some (.cells (pl m x y) t (0, 0))) : w.rangeAt b 4 (ev m y).toList := by
  refine range_mid (A := ev m x) (C := #[]) (t := t) ?_ (ev_size _ _)
  rw [h, pl_eq, Array.append_empty]

theorem pt_x (h : w.heap[b]? = some (.cells (pt x y i) t (0, 0))) : w.rangeAt b 0 (nv x).toList := by
  refine range_mid (A := #[]) (C := nv y ++ #[.bool i]) (t := t) ?_ rfl
  rw [h, pt_eq, Array.empty_append]

theorem pt_y (h : w.heap[b]? = some (.cells (pt x y i) t (0, 0))) : w.rangeAt b 4 (nv y).toList := by
  refine range_mid (A := nv x) (C := #[.bool i]) (t := t) ?_ (nv_size _)
  rw [h, pt_eq]

theorem pt_i (h : w.heap[b]? = some (.cells (pt x y i) t (0, 0))) : w.cell? ⟨b, 2 * 4, none⟩ = some (.bool i) := by
  have := range_mid (w := w) (b := b) (t := t) (A := nv x ++ nv y) (B := #[.bool i]) (C := #[]) (o := 2 * 4) (by rw [h, pt_eq, Array.append_empty, Array.append_assoc]) (by rw [Array.size_append, nv_size, nv_size])
  exact this 0 _ rfl

end

theorem build_pl {X Y : Array Value} (hX : X.size = 4) (hY : Y.size = 4) (w : World) : (Instr.build 262 #[(0, .agg X), (1, .agg Y)]).run Tryz.prog w = .ok (.agg (X ++ Y)) w := by
  refine build_struct (fs := fsOf (Tryz.prog.underlying 262)) (z := #[] ++ (zn ++ zn)) (places := #[(0, 4), (4, 4)]) (by kernel_rfl) (by kernel_rfl) (by kernel_rfl) ?_
  rw [fill_cons (X := X) rfl (off := 0) (size := 4) rfl hX rfl zn_size, Array.empty_append]
  have e : X ++ zn = X ++ (zn ++ #[]) := by rw [Array.append_empty]
  rw [e, fill_cons (X := Y) rfl (off := 4) (size := 4) rfl hY hX zn_size, Array.append_empty]
  rfl

theorem build_sc {X Y : Array Value} (hX : X.size = 2 * 4) (hY : Y.size = 4) (w : World) : (Instr.build 264 #[(0, .agg X), (1, .agg Y)]).run Tryz.prog w = .ok (.agg (X ++ Y)) w := by
  refine build_struct (fs := fsOf (Tryz.prog.underlying 264)) (z := #[] ++ ((zn ++ zn) ++ zn)) (places := #[(0, 2 * 4), (2 * 4, 4)]) (by kernel_rfl) (by kernel_rfl) (by kernel_rfl) ?_
  rw [fill_cons (X := X) rfl (off := 0) (size := 2 * 4) rfl hX rfl rfl, Array.empty_append]
  have e : X ++ zn = X ++ (zn ++ #[]) := by rw [Array.append_empty]
  rw [e, fill_cons (X := Y) rfl (off := 2 * 4) (size := 4) rfl hY hX zn_size, Array.append_empty]
  rfl

theorem build_pt {X Y : Array Value} (hX : X.size = 4) (hY : Y.size = 4) (w : World) : (Instr.build 125 #[(0, .agg X), (1, .agg Y)]).run Tryz.prog w = .ok (.agg (X ++ (Y ++ #[.bool false]))) w := by
  refine build_struct (fs := fsOf (Tryz.prog.underlying 125)) (z := #[] ++ (zn ++ (zn ++ #[.bool false]))) (places := #[(0, 4), (4, 4), (2 * 4, 1)]) (by kernel_rfl) (by kernel_rfl) (by kernel_rfl) ?_
  rw [fill_cons (X := X) rfl (off := 0) (size := 4) rfl hX rfl zn_size, Array.empty_append]
  rw [fill_cons (X := Y) rfl (off := 4) (size := 4) rfl hY hX zn_size]
  rfl

theorem build_pt3 {X Y : Array Value} (hX : X.size = 4) (hY : Y.size = 4) (i : Bool) (w : World) : (Instr.build 125 #[(0, .agg X), (1, .agg Y), (2, .bool i)]).run Tryz.prog w = .ok (.agg (X ++ (Y ++ #[.bool i]))) w := by
  refine build_struct (fs := fsOf (Tryz.prog.underlying 125)) (z := #[] ++ (zn ++ (zn ++ #[.bool false]))) (places := #[(0, 4), (4, 4), (2 * 4, 1)]) (by kernel_rfl) (by kernel_rfl) (by kernel_rfl) ?_
  rw [fill_cons (X := X) rfl (off := 0) (size := 4) rfl hX rfl zn_size, Array.empty_append]
  rw [fill_cons (X := Y) rfl (off := 4) (size := 4) rfl hY hX zn_size]
  have e : X ++ (Y ++ #[.bool false]) = (X ++ Y) ++ (#[.bool false] ++ #[]) := by rw [Array.append_empty, Array.append_assoc]
  rw [e, fill_cons (X := #[.bool i]) rfl (off := 2 * 4) (size := 1) rfl rfl (by rw [Array.size_append, hX, hY]) rfl, Array.append_empty, Array.append_assoc]
  rfl

theorem bd_pl (m : Nat) (x y : K) (w : World) : (Instr.build 262 #[(0, .agg (ev m x)), (1, .agg (ev m y))]).run Tryz.prog w = .ok (.agg (pl m x y)) w := by
  rw [pl_eq]
  exact build_pl (ev_size _ _) (ev_size _ _) w

theorem bd_sc (m : Nat) (x y z : K) (w : World) : (Instr.build 264 #[(0, .agg (pl m x y)), (1, .agg (ev m z))]).run Tryz.prog w = .ok (.agg (sc m x y z)) w := by
  rw [sc_eq]
  exact build_sc (pl_size _ _ _) (ev_size _ _) w

theorem bd_pt (x y : K) (w : World) : (Instr.build 125 #[(0, .agg (nv x)), (1, .agg (nv y))]).run Tryz.prog w = .ok (.agg (pt x y false)) w := by
  rw [pt_eq]
  exact build_pt (nv_size _) (nv_size _) w

theorem nv_zero : nv k0 = zn := by rw [nv_eq]; rfl

theorem build_inf (w : World) : (Instr.build 125 #[(2, .bool true)]).run Tryz.prog w = .ok (.agg (pt k0 k0 true)) w := by
  refine build_struct (fs := fsOf (Tryz.prog.underlying 125)) (z := (zn ++ zn) ++ (#[.bool false] ++ #[])) (places := #[(0, 4), (4, 4), (2 * 4, 1)]) (by kernel_rfl) (by kernel_rfl) (by kernel_rfl) ?_
  rw [fill_cons (X := #[.bool true]) rfl (off := 2 * 4) (size := 1) rfl rfl (by rw [Array.size_append, zn_size]) rfl, Array.append_empty, Array.append_assoc]
  rw [pt_eq, nv_zero]
  rfl

set_option maxHeartbeats 1000000 in
set_option maxRecDepth 100000 in
theorem infinity_any (w : World) : Calls Tryz.prog 162 #[] w fun e w' => e = .returned (.agg (pt k0 k0 true)) ∧ Below w.heap.size w w' := by
  go_enter Tryz.func162, Tryz.ntmps162
  refine wp_seqH (fun K0 HK0 => ?_)
  go_wp2_with fail
  refine HK0.out _ _ ?_
  clear HK0 K0
  refine at_world (fun W0 hW0 => ?_)
  have hbr : ∃ C : Array Value, W0.heap[w.heap.size]? = some (.cells C 125 (0, 0)) ∧ C.size = 2 * 4 + 1 := by
    rw [hW0]
    exact ⟨_, heap_new _ _, rfl⟩
  have hbw : Below w.heap.size w W0 := by
    rw [hW0]
    exact (Below.refl _ _).alloc (Nat.le_refl _) _
  clear hW0
  obtain ⟨C, hC, hs⟩ := hbr
  have HC := hideP hC
  have HBW := hideP hbw
  clear hC hbw
  generalize w.heap.size = N at *
  refine wp_seqH (fun K1 HK1 => ?_)
  refine wp_region_list ?_
  refine wpList_oper rfl (fun K hK => ?_)
  refine wp_build1D 125 2 _ 1 rfl rfl rfl (build_inf W0) ?_
  refine hK _ _ ?_
  clear hK K
  refine wpList_store_midD rfl 125 (.tmp 0) (.tmp 1) rfl rfl N 0 (pt k0 k0 true) rfl rfl (there_of HC.out (hs.trans (pt_size _ _ _).symm)) (infoPt (pt_size _ _ _)) (pt_one _ _ _) ?_
  refine wpList_nil ?_
  refine HK1.out _ _ ?_
  have hQ := KQ.start HC.out hs
  have g1 := hQ.put (C := pt k0 k0 true) (pt_size _ _ _)
  have hS := hQ.store (C := pt k0 k0 true) (pt_size _ _ _)
  generalize World.setCells _ N 0 (pt k0 k0 true).toList = x at g1 hS ⊢
  refine wp_ret ?_
  exact bodyPost_ret_by (results_cell rfl rfl (loadC _ N 0 125 (pt k0 k0 true) _ (rangeOf g1) underPt rfl (infoPt (pt_size _ _ _)))) rfl ⟨rfl, HBW.out.trans hS.below⟩

end Go.Proofs.YtppijhcfodccfaaGreat.P4

namespace Go.Proofs.YtppijhcfodccfaaGreat.P4
open Go.RowKit Go.Shelf

set_option maxRecDepth 100000 in
theorem gqE : Tryz.prog.eqGuardType Tryz.prog.depth 32 = false := by kernel_rfl

set_option maxRecDepth 100000 in
theorem gqPl : Tryz.prog.eqGuardType Tryz.prog.depth 262 = false := by kernel_rfl

theorem eqPl {w : World} {p m : Nat} (hg : FOK w p m) (x y x' y' : K) (W : World) : (Op.equalIn 10000 262 (.agg (pl m x y)) (.agg (pl m x' y'))).run Tryz.prog W = .ok (decide (Like m x x') && decide (Like m y y')) W := by
  have iE : (Tryz.prog.info? 32).map (·.size) = some 4 := by rw [infoE (ev_size m x), ev_size]
  rw [pl_eq, pl_eq]
  exact equal_two (f1 := (fsOf (Tryz.prog.underlying 262))[0]!) (f2 := (fsOf (Tryz.prog.underlying 262))[1]!) (e1 := 32) (e2 := 32) (d := 9999) (n1 := 4) (n2 := 4) (by kernel_rfl) (by kernel_rfl) (by decide +kernel) (by decide +kernel) (by kernel_rfl) (by kernel_rfl) (by kernel_rfl) (by kernel_rfl)
    underE rfl iE underE rfl iE (ev_size _ _) (ev_size _ _) (ev_size _ _) (ev_size _ _) (eqE 9997 hg x x' W) (eqE 9997 hg y y' W)

set_option maxRecDepth 100000 in
theorem gqPt : Tryz.prog.eqGuardType Tryz.prog.depth 125 = false := by kernel_rfl

theorem eqB (d : Nat) (a b : Bool) (W : World) : (Op.equalIn (d + 1) 4 (.bool a) (.bool b)).run Tryz.prog W = .ok (a == b) W := by
  unfold Op.equalIn
  simp [go_sem]

theorem eqPt {x y x' y' : K} (hx : Fits x) (hy : Fits y) (hx' : Fits x') (hy' : Fits y') (i i' : Bool) (W : World) : (Op.equalIn 10000 125 (.agg (pt x y i)) (.agg (pt x' y' i'))).run Tryz.prog W = .ok (decide (x = x') && (decide (y = y') && (i == i'))) W := by
  have iE : (Tryz.prog.info? 32).map (·.size) = some 4 := by rw [infoE (nv_size x), nv_size]
  rw [pt_eq, pt_eq]
  exact equal_three (f1 := (fsOf (Tryz.prog.underlying 125))[0]!) (f2 := (fsOf (Tryz.prog.underlying 125))[1]!) (f3 := (fsOf (Tryz.prog.underlying 125))[2]!) (e1 := 32) (e2 := 32) (e3 := 4) (d := 9999) (n1 := 4) (n2 := 4) (by kernel_rfl) (by kernel_rfl) (by decide +kernel) (by decide +kernel) (by decide +kernel) (by kernel_rfl) (by kernel_rfl) (by kernel_rfl) (by kernel_rfl) (by kernel_rfl) (by kernel_rfl)
    underE rfl iE underE rfl iE (by kernel_rfl) (nv_size _) (nv_size _) (nv_size _) (nv_size _) (eqN 9997 hx hx' W) (eqN 9997 hy hy' W) (eqB 9998 i i' W)

end Go.Proofs.YtppijhcfodccfaaGreat.P4

namespace Go.Proofs.YtppijhcfodccfaaGreat.P4
open Go.RowKit Go.Shelf

set_option maxHeartbeats 4000000 in
set_option maxRecDepth 100000 in
theorem twice_any {w : World} {g p m : Nat} {b : K} (hG : GAt w g p m b) (x : K) : Calls Tryz.prog 238 #[.pointer (some ⟨g, 0, none⟩), .agg (ev m x)] w fun e w' => e = .returned (.agg (ev m (kadd m x x))) ∧ Below w.heap.size w w' := by
  have hg := hG.glt
  have hp := hG.plt
  have HG9 := hideP hG
  clear hG
  go_enter Tryz.func238, Tryz.ntmps238
  refine wp_seqH (fun K0 HK0 => ?_)
  go_wp2_with fail
  refine HK0.out _ _ ?_
  clear HK0 K0
  refine at_world (fun W0 hW0 => ?_)
  have hb0 : W0.heap[w.heap.size]? = some (.cells (ev m (x)) 32 (0, 0)) := by
    rw [hW0]
    exact ((heap_old _ _ (by simp <;> omega)).trans (heap_new _ _))
  have hbr : ∃ C : Array Value, W0.heap[w.heap.size + 1]? = some (.cells C 32 (0, 0)) ∧ C.size = 4 := by
    rw [hW0]
    exact ⟨_, heap_new1 _ _ _, rfl⟩
  have hbw : Below w.heap.size w W0 := by
    rw [hW0]
    repeat first | exact Below.refl _ _ | (refine Below.alloc ?_ (by simp <;> omega) _)
  clear hW0
  have HG := hideP (HG9.out.below hbw)
  clear HG9
  have HBW := hideP hbw
  clear hbw
  generalize hN : w.heap.size = N at *
  clear hN
  generalize hB1 : N + 1 = B1 at *
  have o1 : N < B1 := by omega
  clear hB1
  have H0 := hideP hb0
  clear hb0
  obtain ⟨Cr, hbr, s_B1⟩ := hbr
  have Hr := hideP hbr
  clear hbr
  refine wp_seqH (fun K1 HK1 => ?_)
  refine wp_region_heldS (S := fun V => KQ W0 B1 4 32 V) (by kernel_rfl) (KQ.init Hr.out s_B1) (fun hS => ?_)
  refine wpAnyH_takeL (i := 0) (v := ?_) rfl (by kernel_rfl) (by kernel_rfl) (by kernel_rfl) (fun _ _ _ h => h) (Or.inl ⟨by kernel_rfl, ?_⟩) hS ?_
  rotate_left
  · intro V hV
    go_simp
    (try with_reducible rfl)
  simp only [put_list, List.set_cons_succ, List.set_cons_zero]
  refine wpAnyH_takeL (i := 1) (v := ?_) rfl (by kernel_rfl) (by kernel_rfl) (by kernel_rfl) (fun _ _ _ h => h) (Or.inl ⟨by kernel_rfl, ?_⟩) hS ?_
  rotate_left
  · intro V hV
    go_simp
    (try with_reducible rfl)
  simp only [put_list, List.set_cons_succ, List.set_cons_zero]
  refine wpAnyH_takeL (i := 2) (v := ?_) rfl (by kernel_rfl) (by kernel_rfl) (by kernel_rfl) (fun _ _ _ h => h) (Or.inl ⟨by kernel_rfl, ?_⟩) hS ?_
  rotate_left
  · intro V hV
    go_simp
    (try with_reducible rfl)
  simp only [put_list, List.set_cons_succ, List.set_cons_zero]
  refine wpAnyH_takeL (i := 3) (v := ifv p) rfl (by kernel_rfl) (by kernel_rfl) (by kernel_rfl) (fun _ _ _ h => h) (Or.inl ⟨by kernel_rfl, ?_⟩) hS ?_
  · intro V hV
    have hf := (HG.out.kq hV (by omega) (by omega)).fld
    go_simp
    (try with_reducible rfl)
  simp only [put_list, List.set_cons_succ, List.set_cons_zero]
  refine wpAnyH_takeL (i := 4) (v := .agg (ev m (x))) rfl (by kernel_rfl) (by kernel_rfl) (by kernel_rfl) (fun _ _ _ h => h) (yields_loadC (by kernel_rfl) 32 _ rfl (N) (0) rfl (ev m (x)) _ (fun V hV => rangeOf (hV.box H0.out (by omega))) underE rfl (infoE (ev_size _ _))) hS ?_
  simp only [put_list, List.set_cons_succ, List.set_cons_zero]
  refine wpAnyH_takeL (i := 5) (v := .agg (ev m (x))) rfl (by kernel_rfl) (by kernel_rfl) (by kernel_rfl) (fun _ _ _ h => h) (yields_loadC (by kernel_rfl) 32 _ rfl (N) (0) rfl (ev m (x)) _ (fun V hV => rangeOf (hV.box H0.out (by omega))) underE rfl (infoE (ev_size _ _))) hS ?_
  simp only [put_list, List.set_cons_succ, List.set_cons_zero]
  refine wpAnyH_ready (rs := [6]) (by kernel_rfl) (by simp) (AllReadyH.cons rfl (fun K hK => ?_) AllReadyH.nil)
  refine ite_wp (by kernel_rfl) ?_
  refine wp_invoke2D (.tmp 8) (.tmp 9) (.tmp 10) "Add" _ 11 rfl rfl rfl rfl rfl (cm_Add p _ _ _) (c_Add ((HG.out.kq hS (by omega) (by omega)).ok) (x) (x)) ?_
  intro x4 hbc
  refine hK.out _ _ (hS.call hbc) (fun hS => ?_)
  clear hK K hbc
  simp only [List.set_cons_succ, List.set_cons_zero]
  refine wpAnyH_ready (rs := [7]) (by kernel_rfl) (by simp) (AllReadyH.cons rfl (fun K hK => ?_) AllReadyH.nil)
  refine ite_wp (by kernel_rfl) ?_
  refine wp_store_midN 32 (.tmp 4) (.tmp 11) rfl rfl (B1) 0 (ev m (kadd m (x) (x))) rfl rfl (hS.there (ev_size _ _)) (infoE (ev_size _ _)) (ev_one _ _) ?_
  have g1 := hS.put (C := ev m (kadd m (x) (x))) (ev_size _ _)
  have hS9 := hS.store (C := ev m (kadd m (x) (x))) (ev_size _ _)
  clear hS
  generalize World.setCells _ (B1) 0 (ev m (kadd m (x) (x))).toList = x5 at g1 hS9 ⊢
  refine hK.out _ _ hS9 (fun hS => ?_)
  clear hK K hS9
  refine wpAnyH_done (by kernel_rfl) ?_ _
  (try simp only [put_none])
  refine HK1.out _ _ ?_
  clear HK1 K1
  refine wp_ret ?_
  exact bodyPost_ret_by (results_cell rfl rfl (loadC _ B1 0 32 (ev m (kadd m (x) (x))) _ (rangeOf g1) underE rfl (infoE (ev_size _ _)))) rfl ⟨rfl, HBW.out.trans (hS.below.mono (by omega))⟩

end Go.Proofs.YtppijhcfodccfaaGreat.P4
