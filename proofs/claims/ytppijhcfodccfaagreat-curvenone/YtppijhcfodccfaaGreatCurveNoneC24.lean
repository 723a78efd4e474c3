/-
  A curve that nobody made.
-/
import Derived.Test.YtppijhcfodccfaaGreatCurveNoneC23
import Derived.Test.YtppijhcfodccfaaGreatCurveNoneC02
import Derived.Test.YtppijhcfodccfaaGreatCurveNoneC03
import Derived.Test.YtppijhcfodccfaaGreatCurveNoneC04
import Derived.Test.YtppijhcfodccfaaGreatCurveNoneC18
namespace Go.Proofs.YtppijhcfodccfaaGreat.Q4
open Go.RowKit Go.Shelf

set_option maxHeartbeats 4000000 in
set_option maxRecDepth 100000 in
theorem qIn {w : World} {p m : Nat} (hG : RAt w p m) (x : K) (hx : Fits x) : Calls Tryz.prog 287 #[.agg #[.pointer (some ⟨p, 0, none⟩)], .agg (nv x)] w fun e w' => e = .returned (.agg (ev m (x))) ∧ Below w.heap.size w w' := by
  have hp := hG.plt
  have HG9 := hideP hG
  clear hG
  go_enter Tryz.func287, Tryz.ntmps287
  refine wp_seqH (fun K0 HK0 => ?_)
  go_wp2_with fail
  refine HK0.out _ _ ?_
  clear HK0 K0
  refine at_world (fun W0 hW0 => ?_)
  have hb0 : W0.heap[w.heap.size]? = some (.cells (#[.pointer (some ⟨p, 0, none⟩)]) 131 (0, 0)) := by
    rw [hW0]
    exact ((heap_old _ _ (by simp <;> omega)).trans ((heap_old _ _ (by simp <;> omega)).trans (heap_new _ _)))
  have hb1 : W0.heap[w.heap.size + 1]? = some (.cells (nv (x)) 47 (0, 0)) := by
    rw [hW0]
    exact ((heap_old _ _ (by simp <;> omega)).trans (heap_new1 _ _ _))
  have hbr : ∃ C : Array Value, W0.heap[w.heap.size + 1 + 1]? = some (.cells C 47 (0, 0)) ∧ C.size = 8 := by
    rw [hW0]
    exact ⟨_, heap_new2 _ _ _ _, rfl⟩
  have hbw : Below w.heap.size w W0 := by
    rw [hW0]
    repeat first | exact Below.refl _ _ | (refine Below.alloc ?_ (by simp <;> omega) _)
  clear hW0
  have HG := hideP (HG9.out.below hbw)
  clear HG9
  have HBW := hideP hbw
  clear hbw
  generalize hN : w.heap.size = N at *
  clear hN
  generalize hB1 : N + 1 = B1 at *
  generalize hB2 : B1 + 1 = B2 at *
  have o1 : N < B1 := by omega
  have o2 : B1 < B2 := by omega
  clear hB2
  clear hB1
  have H0 := hideP hb0
  clear hb0
  have H1 := hideP hb1
  clear hb1
  obtain ⟨Cr, hbr, s_B2⟩ := hbr
  have Hr := hideP hbr
  clear hbr
  refine wp_seqH (fun K1 HK1 => ?_)
  refine wp_region_heldS (S := fun V => KQ W0 B2 8 47 V) (by kernel_rfl) (KQ.init Hr.out s_B2) (fun hS => ?_)
  refine wpAnyH_takeL (i := 0) (v := ?_) rfl (by kernel_rfl) (by kernel_rfl) (by kernel_rfl) (fun _ _ _ h => h) (Or.inl ⟨by kernel_rfl, ?_⟩) hS ?_
  rotate_left
  · intro V hV
    go_simp
    (try with_reducible rfl)
  simp only [put_list, List.set_cons_succ, List.set_cons_zero]
  refine wpAnyH_takeL (i := 1) (v := .pointer (some ⟨p, 0, none⟩)) rfl (by kernel_rfl) (by kernel_rfl) (by kernel_rfl) (fun _ _ _ h => h) (Or.inl ⟨by kernel_rfl, ?_⟩) hS ?_
  · intro V hV
    have hf := blk_cell (hV.box H0.out (by omega)) (o := 0) rfl
    go_simp
    (try with_reducible rfl)
  simp only [put_list, List.set_cons_succ, List.set_cons_zero]
  refine wpAnyH_takeL (i := 2) (v := ?_) rfl (by kernel_rfl) (by kernel_rfl) (by kernel_rfl) (fun _ _ _ h => h) (Or.inl ⟨by kernel_rfl, ?_⟩) hS ?_
  rotate_left
  · intro V hV
    go_simp
    (try with_reducible rfl)
  simp only [put_list, List.set_cons_succ, List.set_cons_zero]
  refine wpAnyH_takeL (i := 3) (v := .agg (P4.nv (x.1))) rfl (by kernel_rfl) (by kernel_rfl) (by kernel_rfl) (fun _ _ _ h => h) (yields_loadC (by kernel_rfl) 32 _ rfl (B1) (0) rfl (P4.nv (x.1)) _ (fun V hV => nv_0 (hV.box H1.out (by omega))) P4.underE rfl (P4.infoE (P4.nv_size _))) hS ?_
  simp only [put_list, List.set_cons_succ, List.set_cons_zero]
  refine wpAnyH_takeL (i := 5) (v := ?_) rfl (by kernel_rfl) (by kernel_rfl) (by kernel_rfl) (fun _ _ _ h => h) (Or.inl ⟨by kernel_rfl, ?_⟩) hS ?_
  rotate_left
  · intro V hV
    go_simp
    (try with_reducible rfl)
  simp only [put_list, List.set_cons_succ, List.set_cons_zero]
  refine wpAnyH_takeL (i := 6) (v := .pointer (some ⟨p, 0, none⟩)) rfl (by kernel_rfl) (by kernel_rfl) (by kernel_rfl) (fun _ _ _ h => h) (Or.inl ⟨by kernel_rfl, ?_⟩) hS ?_
  · intro V hV
    have hf := blk_cell (hV.box H0.out (by omega)) (o := 0) rfl
    go_simp
    (try with_reducible rfl)
  simp only [put_list, List.set_cons_succ, List.set_cons_zero]
  refine wpAnyH_takeL (i := 7) (v := ?_) rfl (by kernel_rfl) (by kernel_rfl) (by kernel_rfl) (fun _ _ _ h => h) (Or.inl ⟨by kernel_rfl, ?_⟩) hS ?_
  rotate_left
  · intro V hV
    go_simp
    (try with_reducible rfl)
  simp only [put_list, List.set_cons_succ, List.set_cons_zero]
  refine wpAnyH_takeL (i := 8) (v := .agg (P4.nv (x.2))) rfl (by kernel_rfl) (by kernel_rfl) (by kernel_rfl) (fun _ _ _ h => h) (yields_loadC (by kernel_rfl) 32 _ rfl (B1) (4) rfl (P4.nv (x.2)) _ (fun V hV => nv_1 (hV.box H1.out (by omega))) P4.underE rfl (P4.infoE (P4.nv_size _))) hS ?_
  simp only [put_list, List.set_cons_succ, List.set_cons_zero]
  refine wpAnyH_ready (rs := [4]) (by kernel_rfl) (by simp) (AllReadyH.cons rfl (fun K hK => ?_) AllReadyH.nil)
  refine ite_wp (by kernel_rfl) ?_
  refine wp_call2D (.tmp 6) (.tmp 8) _ 9 rfl rfl rfl rfl (enters_of Tryz.func274 (by kernel_rfl) rfl) (P4.c_In ((HG.out.kq hS (by omega)).ok) (x.1) hx.1) ?_
  intro x5 hbc
  refine hK.out _ _ (hS.call hbc) (fun hS => ?_)
  clear hK K hbc
  simp only [List.set_cons_succ, List.set_cons_zero]
  refine wpAnyH_ready (rs := [9]) (by kernel_rfl) (by simp) (AllReadyH.cons rfl (fun K hK => ?_) AllReadyH.nil)
  refine ite_wp (by kernel_rfl) ?_
  refine wp_call2D (.tmp 11) (.tmp 13) _ 14 rfl rfl rfl rfl (enters_of Tryz.func274 (by kernel_rfl) rfl) (P4.c_In ((HG.out.kq hS (by omega)).ok) (x.2) hx.2) ?_
  intro x6 hbc
  refine hK.out _ _ (hS.call hbc) (fun hS => ?_)
  clear hK K hbc
  simp only [List.set_cons_succ, List.set_cons_zero]
  refine wpAnyH_takeL (i := 10) (v := .agg (ev m ((x.1, x.2)))) rfl (by kernel_rfl) (by kernel_rfl) (by kernel_rfl) (fun _ _ _ h => h) (yields_build2 (by kernel_rfl) 47 (.tmp 9) (.tmp 14) rfl rfl rfl (bd_e _ _ _)) hS ?_
  simp only [put_list, List.set_cons_succ, List.set_cons_zero]
  refine wpAnyH_ready (rs := [11]) (by kernel_rfl) (by simp) (AllReadyH.cons rfl (fun K hK => ?_) AllReadyH.nil)
  refine ite_wp (by kernel_rfl) ?_
  refine wp_store_midN 47 (.tmp 4) (.tmp 15) rfl rfl (B2) 0 (ev m ((x.1, x.2))) rfl rfl (hS.there (ev_size _ _)) (infoQ (ev_size _ _)) (ev_one _ _) ?_
  have g1 := hS.put (C := ev m ((x.1, x.2))) (ev_size _ _)
  have hS9 := hS.store (C := ev m ((x.1, x.2))) (ev_size _ _)
  clear hS
  generalize World.setCells _ (B2) 0 (ev m ((x.1, x.2))).toList = x7 at g1 hS9 ⊢
  refine hK.out _ _ hS9 (fun hS => ?_)
  clear hK K hS9
  refine wpAnyH_done (by kernel_rfl) ?_ _
  (try simp only [put_none])
  refine HK1.out _ _ ?_
  clear HK1 K1
  refine wp_ret ?_
  exact bodyPost_ret_by (results_cell rfl rfl (loadC _ B2 0 47 (ev m ((x.1, x.2))) _ (rangeOf g1) underQ rfl (infoQ (ev_size _ _)))) rfl ⟨rfl, HBW.out.trans (hS.below.mono (by omega))⟩

end Go.Proofs.YtppijhcfodccfaaGreat.Q4

namespace Go.Proofs.YtppijhcfodccfaaGreat.Q4
open Go.RowKit Go.Shelf

def ifv (p : Nat) : Value := .iface 131 (.agg #[.pointer (some ⟨p, 0, none⟩)])

def rcv (p : Nat) : Value := .agg #[.pointer (some ⟨p, 0, none⟩)]

section
variable (p : Nat) (a b : Value) (w : World)
set_option maxRecDepth 100000
theorem cm_In : (callMethod (ifv p) "In" #[a]).run Tryz.prog w = .ok (.enter 287 #[rcv p, a]) w := by kernel_rfl

end

theorem RAt.of {w : World} {p m : Nat} (h : FOK w p m) : RAt w p m := by
  obtain ⟨f, h1, h2⟩ := h.ex
  exact ⟨h, h2.lt⟩

section
variable {w : World} {p m : Nat} (hg : FOK w p m) (x y : K)
include hg
theorem c_In (hx : Fits x) : Calls Tryz.prog 287 #[rcv p, .agg (nv x)] w fun e w' => e = .returned (.agg (ev m x)) ∧ Below w.heap.size w w' := qIn (RAt.of hg) x hx

end

theorem k0_fits : Fits k0 := ⟨P4.k0_fits, P4.k0_fits⟩

end Go.Proofs.YtppijhcfodccfaaGreat.Q4

namespace Go.Proofs.YtppijhcfodccfaaGreat.Q4
open Go.RowKit Go.Shelf

theorem underE : Tryz.prog.underlying 47 = some (.array 2 32) := by kernel_rfl

theorem infoE {C : Array Value} (h : C.size = 8) : (Tryz.prog.info? 47).map (·.size) = some C.size := by rw [h]; kernel_rfl

/-- A group in memory: its field, 0, 1 and b. -/
structure GAt (w : World) (g p m : Nat) (b : K) : Prop where
  fld : w.cell? ⟨g, 0, none⟩ = some (ifv p)
  zero : w.rangeAt g 1 (ev m k0).toList
  one : w.rangeAt g (1 + 8) (ev m k1).toList
  b : w.rangeAt g (1 + 2 * 8) (ev m b).toList
  ok : FOK w p m
  glt : g < w.heap.size
  plt : p < w.heap.size

theorem range_congr {w w' : World} {g o : Nat} {l : List Value} (h : w'.heap[g]? = w.heap[g]?) (hr : w.rangeAt g o l) : w'.rangeAt g o l := fun j v hv => by
  have := hr j v hv
  unfold World.cell? at this ⊢
  rw [h]
  exact this

theorem GAt.same {w w' : World} {g p m : Nat} {b : K} (h : GAt w g p m b) (hg : w'.heap[g]? = w.heap[g]?) (hp : w'.heap[p]? = w.heap[p]?) (hs : w.heap.size ≤ w'.heap.size) : GAt w' g p m b :=
  ⟨by have := h.fld; unfold World.cell? at this ⊢; rw [hg]; exact this, range_congr hg h.zero, range_congr hg h.one, range_congr hg h.b, h.ok.of_same hp, Nat.lt_of_lt_of_le h.glt hs, Nat.lt_of_lt_of_le h.plt hs⟩

theorem GAt.below {w w' : World} {g p m : Nat} {b : K} (h : GAt w g p m b) (hb : Below w.heap.size w w') : GAt w' g p m b := h.same (hb.block _ h.glt) (hb.block _ h.plt) hb.size

theorem GAt.kq {W V : World} {R0 n ty g p m : Nat} {b : K} (h : GAt W g p m b) (hS : KQ W R0 n ty V) (h1 : g ≠ R0) (h2 : p ≠ R0) : GAt V g p m b := h.same (hS.same _ h.glt h1) (hS.same _ h.plt h2) hS.size

end Go.Proofs.YtppijhcfodccfaaGreat.Q4

namespace Go.Proofs.YtppijhcfodccfaaGreat.Q4
open Go.RowKit Go.Shelf

def zn : Array Value := Array.replicate 8 (.int .u64 0)

theorem zn_size : zn.size = 8 := rfl

noncomputable def pt (x y : K) (i : Bool) : Array Value := Classical.choose (⟨_, rfl⟩ : ∃ C : Array Value, C = nv x ++ (nv y ++ #[.bool i]))

theorem pt_eq (x y : K) (i : Bool) : pt x y i = nv x ++ (nv y ++ #[.bool i]) := Classical.choose_spec (⟨_, rfl⟩ : ∃ C : Array Value, C = nv x ++ (nv y ++ #[.bool i]))

theorem pt_size (x y : K) (i : Bool) : (pt x y i).size = 2 * 8 + 1 := by rw [pt_eq, Array.size_append, Array.size_append, nv_size, nv_size]; rfl

theorem all_append' {A B : Array Value} (h1 : A.all (·.oneCell') = true) (h2 : B.all (·.oneCell') = true) : (A ++ B).all (·.oneCell') = true := by
  rw [Array.all_append, h1, h2]; rfl

theorem pt_one (x y : K) (i : Bool) : (pt x y i).all (·.oneCell') = true := by
  rw [pt_eq]
  exact all_append' (nv_one _) (all_append' (nv_one _) (by simp [Value.oneCell']))

theorem underPt : Tryz.prog.underlying 133 = some (.struct (fsOf (Tryz.prog.underlying 133))) := by kernel_rfl

theorem infoPt {C : Array Value} (h : C.size = 2 * 8 + 1) : (Tryz.prog.info? 133).map (·.size) = some C.size := by rw [h]; kernel_rfl

section
variable {w : World} {b t m : Nat} {x y z : K} {i : Bool}
theorem pt_x (h : w.heap[b]? = some (.cells (pt x y i) t (0, 0))) : w.rangeAt b 0 (nv x).toList := by
  refine range_mid (A := #[]) (C := nv y ++ #[.bool i]) (t := t) ?_ rfl
  rw [h, pt_eq, Array.empty_append]

theorem pt_y (h : w.heap[b]? = some (.cells (pt x y i) t (0, 0))) : w.rangeAt b 8 (nv y).toList := by
  refine range_mid (A := nv x) (C := #[.bool i]) (t := t) ?_ (nv_size _)
  rw [h, pt_eq]

theorem pt_i (h : w.heap[b]? = some (.cells (pt x y i) t (0, 0))) : w.cell? ⟨b, 2 * 8, none⟩ = some (.bool i) := by
  have := range_mid (w := w) (b := b) (t := t) (A := nv x ++ nv y) (B := #[.bool i]) (C := #[]) (o := 2 * 8) (by rw [h, pt_eq, Array.append_empty, Array.append_assoc]) (by rw [Array.size_append, nv_size, nv_size])
  exact this 0 _ rfl

end

theorem build_pt {X Y : Array Value} (hX : X.size = 8) (hY : Y.size = 8) (w : World) : (Instr.build 133 #[(0, .agg X), (1, .agg Y)]).run Tryz.prog w = .ok (.agg (X ++ (Y ++ #[.bool false]))) w := by
  refine build_struct (fs := fsOf (Tryz.prog.underlying 133)) (z := #[] ++ (zn ++ (zn ++ #[.bool false]))) (places := #[(0, 8), (8, 8), (2 * 8, 1)]) (by kernel_rfl) (by kernel_rfl) (by kernel_rfl) ?_
  rw [fill_cons (X := X) rfl (off := 0) (size := 8) rfl hX rfl zn_size, Array.empty_append]
  rw [fill_cons (X := Y) rfl (off := 8) (size := 8) rfl hY hX zn_size]
  rfl

theorem build_pt3 {X Y : Array Value} (hX : X.size = 8) (hY : Y.size = 8) (i : Bool) (w : World) : (Instr.build 133 #[(0, .agg X), (1, .agg Y), (2, .bool i)]).run Tryz.prog w = .ok (.agg (X ++ (Y ++ #[.bool i]))) w := by
  refine build_struct (fs := fsOf (Tryz.prog.underlying 133)) (z := #[] ++ (zn ++ (zn ++ #[.bool false]))) (places := #[(0, 8), (8, 8), (2 * 8, 1)]) (by kernel_rfl) (by kernel_rfl) (by kernel_rfl) ?_
  rw [fill_cons (X := X) rfl (off := 0) (size := 8) rfl hX rfl zn_size, Array.empty_append]
  rw [fill_cons (X := Y) rfl (off := 8) (size := 8) rfl hY hX zn_size]
  have e : X ++ (Y ++ #[.bool false]) = (X ++ Y) ++ (#[.bool false] ++ #[]) := by rw [Array.append_empty, Array.append_assoc]
  rw [e, fill_cons (X := #[.bool i]) rfl (off := 2 * 8) (size := 1) rfl rfl (by rw [Array.size_append, hX, hY]) rfl, Array.append_empty, Array.append_assoc]
  rfl

theorem bd_pt (x y : K) (w : World) : (Instr.build 133 #[(0, .agg (nv x)), (1, .agg (nv y))]).run Tryz.prog w = .ok (.agg (pt x y false)) w := by
  rw [pt_eq]
  exact build_pt (nv_size _) (nv_size _) w

theorem nv_zero : nv k0 = zn := by first | (rw [nv_eq]; rfl) | (rw [nv_eq, P4.nv_eq, P4.nv_eq]; rfl)

theorem build_inf (w : World) : (Instr.build 133 #[(2, .bool true)]).run Tryz.prog w = .ok (.agg (pt k0 k0 true)) w := by
  refine build_struct (fs := fsOf (Tryz.prog.underlying 133)) (z := (zn ++ zn) ++ (#[.bool false] ++ #[])) (places := #[(0, 8), (8, 8), (2 * 8, 1)]) (by kernel_rfl) (by kernel_rfl) (by kernel_rfl) ?_
  rw [fill_cons (X := #[.bool true]) rfl (off := 2 * 8) (size := 1) rfl rfl (by rw [Array.size_append, zn_size]) rfl, Array.append_empty, Array.append_assoc]
  rw [pt_eq, nv_zero]
  rfl

set_option maxHeartbeats 1000000 in
set_option maxRecDepth 100000 in
theorem infinity_any (w : World) : Calls Tryz.prog 164 #[] w fun e w' => e = .returned (.agg (pt k0 k0 true)) ∧ Below w.heap.size w w' := by
  go_enter Tryz.func164, Tryz.ntmps164
  refine wp_seqH (fun K0 HK0 => ?_)
  go_wp2_with fail
  refine HK0.out _ _ ?_
  clear HK0 K0
  refine at_world (fun W0 hW0 => ?_)
  have hbr : ∃ C : Array Value, W0.heap[w.heap.size]? = some (.cells C 133 (0, 0)) ∧ C.size = 2 * 8 + 1 := by
    rw [hW0]
    exact ⟨_, heap_new _ _, rfl⟩
  have hbw : Below w.heap.size w W0 := by
    rw [hW0]
    exact (Below.refl _ _).alloc (Nat.le_refl _) _
  clear hW0
  obtain ⟨C, hC, hs⟩ := hbr
  have HC := hideP hC
  have HBW := hideP hbw
  clear hC hbw
  generalize w.heap.size = N at *
  refine wp_seqH (fun K1 HK1 => ?_)
  refine wp_region_list ?_
  refine wpList_oper rfl (fun K hK => ?_)
  refine wp_build1D 133 2 _ 1 rfl rfl rfl (build_inf W0) ?_
  refine hK _ _ ?_
  clear hK K
  refine wpList_store_midD rfl 133 (.tmp 0) (.tmp 1) rfl rfl N 0 (pt k0 k0 true) rfl rfl (there_of HC.out (hs.trans (pt_size _ _ _).symm)) (infoPt (pt_size _ _ _)) (pt_one _ _ _) ?_
  refine wpList_nil ?_
  refine HK1.out _ _ ?_
  have hQ := KQ.start HC.out hs
  have g1 := hQ.put (C := pt k0 k0 true) (pt_size _ _ _)
  have hS := hQ.store (C := pt k0 k0 true) (pt_size _ _ _)
  generalize World.setCells _ N 0 (pt k0 k0 true).toList = x at g1 hS ⊢
  refine wp_ret ?_
  exact bodyPost_ret_by (results_cell rfl rfl (loadC _ N 0 133 (pt k0 k0 true) _ (rangeOf g1) underPt rfl (infoPt (pt_size _ _ _)))) rfl ⟨rfl, HBW.out.trans hS.below⟩

end Go.Proofs.YtppijhcfodccfaaGreat.Q4

namespace Go.Proofs.YtppijhcfodccfaaGreat.Q4
open Go.RowKit Go.Shelf

attribute [local go_sem] Oper.semAt_some

theorem below_putObj {B l : Nat} {W V : World} {o : Obj} (h : Below B W V) (hl : B ≤ l) : Below B W (V.putObj l o) :=
  ⟨h.os, h.tape, h.output, by rw [show (V.putObj l o).heap.size = V.heap.size by simp [World.putObj]]; exact h.size, fun k hk => (World.putObj_heap_other (by omega)).trans (h.block k hk)⟩

theorem KQ.putObj {W V : World} {R0 n ty l : Nat} {o : Obj} (h : KQ W R0 n ty V) (hl : W.heap.size ≤ l) (hR : R0 < l) : KQ W R0 n ty (V.putObj l o) := by
  obtain ⟨g, hg, hn⟩ := h.res
  exact ⟨fun b h1 h2 => (World.putObj_heap_other (by omega)).trans (h.same b h1 h2), below_putObj h.below (by omega), g, (World.putObj_heap_other (by omega)).trans hg, hn⟩

theorem underWd : Tryz.prog.underlying 65 = some (.array 4 27) := by kernel_rfl

theorem infoWd {C : Array Value} (h : C.size = 4) : (Tryz.prog.info? 65).map (·.size) = some C.size := by rw [h]; kernel_rfl

end Go.Proofs.YtppijhcfodccfaaGreat.Q4

namespace Go.Proofs.YtppijhcfodccfaaGreat.Q4
open Go.RowKit Go.Shelf

/-- A group's base and order. -/
structure GB (w : World) (g : Nat) (x y : K) (k : Nat) : Prop where
  base : w.rangeAt g (1 + 3 * 8) (pt x y false).toList
  ord : w.rangeAt g (2 + 5 * 8) (W4.cs (limb k)).toList
  lt : g < w.heap.size

theorem GB.below {w w' : World} {g k : Nat} {x y : K} (h : GB w g x y k) (hb : Below w.heap.size w w') : GB w' g x y k :=
  ⟨range_congr (hb.block _ h.lt) h.base, range_congr (hb.block _ h.lt) h.ord, Nat.lt_of_lt_of_le h.lt hb.size⟩

theorem GB.kq {W V : World} {R0 n ty g k : Nat} {x y : K} (h : GB W g x y k) (hS : KQ W R0 n ty V) (h1 : g ≠ R0) : GB V g x y k :=
  ⟨range_congr (hS.same _ h.lt h1) h.base, range_congr (hS.same _ h.lt h1) h.ord, Nat.lt_of_lt_of_le h.lt hS.size⟩

end Go.Proofs.YtppijhcfodccfaaGreat.Q4

namespace Go.Proofs.YtppijhcfodccfaaGreat.Q4
open Go.RowKit Go.Shelf

theorem zcp_size : (#[.int .u64 0, .int .u64 0, .int .u64 0, .int .u64 0, .int .u64 0, .int .u64 0, .int .u64 0, .int .u64 0, .int .u64 0, .int .u64 0, .int .u64 0, .int .u64 0, .int .u64 0, .int .u64 0, .int .u64 0, .int .u64 0, .bool false] : Array Value).size = 2 * 8 + 1 := rfl

theorem underA : Tryz.prog.underlying 49 = some (.struct (fsOf (Tryz.prog.underlying 49))) := by kernel_rfl

theorem infoA {C : Array Value} (h : C.size = 2 * 8 + 1) : (Tryz.prog.info? 49).map (·.size) = some C.size := by rw [h]; kernel_rfl

/-- A curve in memory: one of its groups. -/
structure CAt (w : World) (c g p m : Nat) (b bx bY : K) (k : Nat) : Prop where
  at_ : w.cell? ⟨c, 2, none⟩ = some (.pointer (some ⟨g, 0, none⟩))
  ga : GAt w g p m b
  gb : GB w g bx bY k
  clt : c < w.heap.size

theorem CAt.below {w w' : World} {c g p m : Nat} {b bx bY : K} {k : Nat} (h : CAt w c g p m b bx bY k) (hb : Below w.heap.size w w') : CAt w' c g p m b bx bY k :=
  ⟨(hb.cell (p := ⟨c, 2, none⟩) h.clt).trans h.at_, h.ga.below hb, h.gb.below hb, Nat.lt_of_lt_of_le h.clt hb.size⟩

theorem CAt.kq {W V : World} {R0 n ty c g p m : Nat} {b bx bY : K} {k : Nat} (h : CAt W c g p m b bx bY k) (hS : KQ W R0 n ty V) (h0 : c ≠ R0) (h1 : g ≠ R0) (h2 : p ≠ R0) : CAt V c g p m b bx bY k :=
  ⟨(World.cell?_of_block (w := W) (a := ⟨c, 2, none⟩) (hS.same _ h.clt h0)).trans h.at_, h.ga.kq hS h1 h2, h.gb.kq hS h1, Nat.lt_of_lt_of_le h.clt hS.size⟩

theorem build_a3 {X Y : Array Value} (hX : X.size = 8) (hY : Y.size = 8) (i : Bool) (w : World) : (Instr.build 49 #[(0, .agg X), (1, .agg Y), (2, .bool i)]).run Tryz.prog w = .ok (.agg (X ++ (Y ++ #[.bool i]))) w := by
  refine build_struct (fs := fsOf (Tryz.prog.underlying 49)) (z := #[] ++ (zn ++ (zn ++ #[.bool false]))) (places := #[(0, 8), (8, 8), (2 * 8, 1)]) (by kernel_rfl) (by kernel_rfl) (by kernel_rfl) ?_
  rw [fill_cons (X := X) rfl (off := 0) (size := 8) rfl hX rfl zn_size, Array.empty_append]
  rw [fill_cons (X := Y) rfl (off := 8) (size := 8) rfl hY hX zn_size]
  have e : X ++ (Y ++ #[.bool false]) = (X ++ Y) ++ (#[.bool false] ++ #[]) := by rw [Array.append_empty, Array.append_assoc]
  rw [e, fill_cons (X := #[.bool i]) rfl (off := 2 * 8) (size := 1) rfl rfl (by rw [Array.size_append, hX, hY]) rfl, Array.append_empty, Array.append_assoc]
  rfl

theorem bd_a3 (x y : K) (i : Bool) (w : World) : (Instr.build 49 #[(0, .agg (nv x)), (1, .agg (nv y)), (2, .bool i)]).run Tryz.prog w = .ok (.agg (pt x y i)) w := by
  rw [pt_eq]
  exact build_a3 (nv_size _) (nv_size _) i w

theorem bd_pt3 (x y : K) (i : Bool) (w : World) : (Instr.build 133 #[(0, .agg (nv x)), (1, .agg (nv y)), (2, .bool i)]).run Tryz.prog w = .ok (.agg (pt x y i)) w := by
  rw [pt_eq]
  exact build_pt3 (nv_size _) (nv_size _) i w

theorem wp_buildD {P : Program} {op : Oper} {l : List Value} {ds : List Deferred} {w : World} {K : Act → World → Prop} {Q : Exit → Act → World → Prop} (t : TypeId) (ps : Array (Nat × Operand)) (vs : Array (Nat × Value)) (d : Nat) (ho : op.op = .build t ps) (hd : op.dst = some d)
    (hps : ps.map (fun x => (x.1, Act.eval { tmps := l.toArray, defers := ds } x.2)) = vs) {v : Value} (hb : (Instr.build t vs).run P w = .ok v w) (h : K { tmps := (l.set d v).toArray, defers := ds } w) : op.wp P { tmps := l.toArray, defers := ds } w K Q := by
  unfold Oper.wp execOp
  simp only [ho, hps, hb, Sem.run_bind, Sem.run_pure, Result.andThen]
  show K _ _
  rw [hd, put_list]
  exact h

set_option maxHeartbeats 1000000 in
set_option maxRecDepth 100000 in
theorem from_any (x y : K) (i : Bool) (w : World) : Calls Tryz.prog 105 #[.agg (pt x y i)] w fun e w' => e = .returned (.agg (pt x y i)) ∧ Below w.heap.size w w' := by
  go_enter Tryz.func105, Tryz.ntmps105
  refine wp_seqH (fun K0 HK0 => ?_)
  go_wp2_with fail
  refine HK0.out _ _ ?_
  clear HK0 K0
  refine at_world (fun W0 hW0 => ?_)
  have hb0 : W0.heap[w.heap.size]? = some (.cells (pt x y i) 49 (0, 0)) := by
    rw [hW0]
    exact ((heap_old _ _ (by simp <;> omega)).trans (heap_new _ _))
  have hbr : ∃ C : Array Value, W0.heap[w.heap.size + 1]? = some (.cells C 133 (0, 0)) ∧ C.size = 2 * 8 + 1 := by
    rw [hW0]
    exact ⟨_, heap_new1 _ _ _, rfl⟩
  have hbw : Below w.heap.size w W0 := by
    rw [hW0]
    repeat first | exact Below.refl _ _ | (refine Below.alloc ?_ (by simp <;> omega) _)
  clear hW0
  obtain ⟨C, hC, hs⟩ := hbr
  have HC := hideP hC
  have H0 := hideP hb0
  have HBW := hideP hbw
  clear hC hb0 hbw
  generalize w.heap.size = N at *
  generalize hB1 : N + 1 = B1 at *
  have o1 : N < B1 := by omega
  clear hB1
  refine wp_seqH (fun K1 HK1 => ?_)
  refine wp_region_list ?_
  refine wpList_oper rfl (fun K hK => ?_)
  go_simp
  refine hK _ _ ?_
  clear hK K
  refine wpList_load_midD rfl 47 (.tmp 3) 4 rfl rfl N 0 (nv x) rfl _ (pt_x H0.out) underE rfl (infoE (nv_size _)) ?_
  simp only [List.set_cons_succ, List.set_cons_zero]
  refine wpList_oper rfl (fun K hK => ?_)
  go_simp
  refine hK _ _ ?_
  clear hK K
  refine wpList_load_midD rfl 47 (.tmp 5) 6 rfl rfl N 8 (nv y) rfl _ (pt_y H0.out) underE rfl (infoE (nv_size _)) ?_
  simp only [List.set_cons_succ, List.set_cons_zero]
  refine wpList_oper rfl (fun K hK => ?_)
  go_simp
  refine hK _ _ ?_
  clear hK K
  refine wpList_oper rfl (fun K hK => ?_)
  have hf := pt_i H0.out
  go_simp
  refine hK _ _ ?_
  clear hK K hf
  refine wpList_oper rfl (fun K hK => ?_)
  refine wp_buildD 133 _ #[(0, .agg (nv x)), (1, .agg (nv y)), (2, .bool i)] 9 rfl rfl (by simp only [List.map_toArray, List.map_cons, List.map_nil]; rfl) (bd_pt3 x y i W0) ?_
  refine hK _ _ ?_
  clear hK K
  simp only [List.set_cons_succ, List.set_cons_zero]
  have hQ := KQ.start HC.out hs
  refine wpList_store_midD rfl 133 (.tmp 2) (.tmp 9) rfl rfl B1 0 (pt x y i) rfl rfl (hQ.there (pt_size _ _ _)) (infoPt (pt_size _ _ _)) (pt_one _ _ _) ?_
  refine wpList_nil ?_
  refine HK1.out _ _ ?_
  have g1 := hQ.put (C := pt x y i) (pt_size _ _ _)
  have hS := hQ.store (C := pt x y i) (pt_size _ _ _)
  generalize World.setCells _ B1 0 (pt x y i).toList = x1 at g1 hS ⊢
  refine wp_ret ?_
  exact bodyPost_ret_by (results_cell rfl rfl (loadC _ B1 0 133 (pt x y i) _ (rangeOf g1) underPt rfl (infoPt (pt_size _ _ _)))) rfl ⟨rfl, HBW.out.trans (hS.below.mono (by omega))⟩

set_option maxHeartbeats 1000000 in
set_option maxRecDepth 100000 in
theorem to_any (x y : K) (i : Bool) (w : World) : Calls Tryz.prog 89 #[.agg (pt x y i)] w fun e w' => e = .returned (.agg (pt x y i)) ∧ Below w.heap.size w w' := by
  go_enter Tryz.func89, Tryz.ntmps89
  refine wp_seqH (fun K0 HK0 => ?_)
  go_wp2_with fail
  refine HK0.out _ _ ?_
  clear HK0 K0
  refine at_world (fun W0 hW0 => ?_)
  have hb0 : W0.heap[w.heap.size]? = some (.cells (pt x y i) 133 (0, 0)) := by
    rw [hW0]
    exact ((heap_old _ _ (by simp <;> omega)).trans (heap_new _ _))
  have hbr : ∃ C : Array Value, W0.heap[w.heap.size + 1]? = some (.cells C 49 (0, 0)) ∧ C.size = 2 * 8 + 1 := by
    rw [hW0]
    exact ⟨_, heap_new1 _ _ _, rfl⟩
  have hbw : Below w.heap.size w W0 := by
    rw [hW0]
    repeat first | exact Below.refl _ _ | (refine Below.alloc ?_ (by simp <;> omega) _)
  clear hW0
  obtain ⟨C, hC, hs⟩ := hbr
  have HC := hideP hC
  have H0 := hideP hb0
  have HBW := hideP hbw
  clear hC hb0 hbw
  generalize w.heap.size = N at *
  generalize hB1 : N + 1 = B1 at *
  have o1 : N < B1 := by omega
  clear hB1
  refine wp_seqH (fun K1 HK1 => ?_)
  refine wp_region_list ?_
  refine wpList_oper rfl (fun K hK => ?_)
  go_simp
  refine hK _ _ ?_
  clear hK K
  refine wpList_load_midD rfl 47 (.tmp 3) 4 rfl rfl N 0 (nv x) rfl _ (pt_x H0.out) underE rfl (infoE (nv_size _)) ?_
  simp only [List.set_cons_succ, List.set_cons_zero]
  refine wpList_oper rfl (fun K hK => ?_)
  go_simp
  refine hK _ _ ?_
  clear hK K
  refine wpList_load_midD rfl 47 (.tmp 5) 6 rfl rfl N 8 (nv y) rfl _ (pt_y H0.out) underE rfl (infoE (nv_size _)) ?_
  simp only [List.set_cons_succ, List.set_cons_zero]
  refine wpList_oper rfl (fun K hK => ?_)
  go_simp
  refine hK _ _ ?_
  clear hK K
  refine wpList_oper rfl (fun K hK => ?_)
  have hf := pt_i H0.out
  go_simp
  refine hK _ _ ?_
  clear hK K hf
  refine wpList_oper rfl (fun K hK => ?_)
  refine wp_buildD 49 _ #[(0, .agg (nv x)), (1, .agg (nv y)), (2, .bool i)] 9 rfl rfl (by simp only [List.map_toArray, List.map_cons, List.map_nil]; rfl) (bd_a3 x y i W0) ?_
  refine hK _ _ ?_
  clear hK K
  simp only [List.set_cons_succ, List.set_cons_zero]
  have hQ := KQ.start HC.out hs
  refine wpList_store_midD rfl 49 (.tmp 2) (.tmp 9) rfl rfl B1 0 (pt x y i) rfl rfl (hQ.there (pt_size _ _ _)) (infoA (pt_size _ _ _)) (pt_one _ _ _) ?_
  refine wpList_nil ?_
  refine HK1.out _ _ ?_
  have g1 := hQ.put (C := pt x y i) (pt_size _ _ _)
  have hS := hQ.store (C := pt x y i) (pt_size _ _ _)
  generalize World.setCells _ B1 0 (pt x y i).toList = x1 at g1 hS ⊢
  refine wp_ret ?_
  exact bodyPost_ret_by (results_cell rfl rfl (loadC _ B1 0 49 (pt x y i) _ (rangeOf g1) underA rfl (infoA (pt_size _ _ _)))) rfl ⟨rfl, HBW.out.trans (hS.below.mono (by omega))⟩

end Go.Proofs.YtppijhcfodccfaaGreat.Q4

namespace Go.Proofs.YtppijhcfodccfaaGreat
open Go.RowKit Go.Shelf

/-- Nothing at all. -/
structure Tv (w : World) : Prop where
  here : w = w

theorem Tv.below {w w' : World} (_ : Tv w) (_ : Below w.heap.size w w') : Tv w' := ⟨rfl⟩

theorem Tv.kq {W V : World} {R0 n ty : Nat} (_ : Tv W) (_ : KQ W R0 n ty V) : Tv V := ⟨rfl⟩

/-- A curve that nobody made: none, or noughts. -/
structure NC (w : World) (v : Value) (M : Nat) : Prop where
  le : M ≤ w.heap.size
  ex : v = .pointer none ∨ ∃ c, c < M ∧ v = .pointer (some ⟨c, 0, none⟩) ∧ w.heap[c]? = some (.cells #[.pointer none, .pointer none, .pointer none] 117 (0, 0))

theorem NC.below {w w' : World} {v : Value} {M : Nat} (h : NC w v M) (hb : Below w.heap.size w w') : NC w' v M :=
  ⟨Nat.le_trans h.le hb.size, h.ex.imp id fun ⟨c, h1, h2, h3⟩ => ⟨c, h1, h2, (hb.block _ (lt_of_block h3)).trans h3⟩⟩

theorem NC.kq {W V : World} {R0 n ty M : Nat} {v : Value} (h : NC W v M) (hS : KQ W R0 n ty V) (h1 : M ≤ R0) : NC V v M :=
  ⟨Nat.le_trans h.le hS.size, h.ex.imp id fun ⟨c, h1, h2, h3⟩ => ⟨c, h1, h2, (hS.same _ (lt_of_block h3) (by omega)).trans h3⟩⟩

set_option maxHeartbeats 1000000 in
set_option maxRecDepth 100000 in
theorem group1_none {w : World} {v : Value} {M : Nat} (hC : NC w v M) : Calls Tryz.prog 84 #[v] w fun e w' => e = .returned (.pointer none) ∧ Below w.heap.size w w' := by
  rcases hC.ex with rfl | ⟨c, _, rfl, h3⟩
  · clear hC
    go_enter Tryz.func84, Tryz.ntmps84
    go_wp2
    go_ret
    exact ⟨rfl, Below.refl _ _⟩
  · have hc := blk_cell h3 (o := 1) rfl
    clear hC h3
    go_enter Tryz.func84, Tryz.ntmps84
    go_wp2
    go_ret
    exact ⟨rfl, Below.refl _ _⟩

set_option maxHeartbeats 1000000 in
set_option maxRecDepth 100000 in
theorem group2_none {w : World} {v : Value} {M : Nat} (hC : NC w v M) : Calls Tryz.prog 90 #[v] w fun e w' => e = .returned (.pointer none) ∧ Below w.heap.size w w' := by
  rcases hC.ex with rfl | ⟨c, _, rfl, h3⟩
  · clear hC
    go_enter Tryz.func90, Tryz.ntmps90
    go_wp2
    go_ret
    exact ⟨rfl, Below.refl _ _⟩
  · have hc := blk_cell h3 (o := 2) rfl
    clear hC h3
    go_enter Tryz.func90, Tryz.ntmps90
    go_wp2
    go_ret
    exact ⟨rfl, Below.refl _ _⟩

end Go.Proofs.YtppijhcfodccfaaGreat
