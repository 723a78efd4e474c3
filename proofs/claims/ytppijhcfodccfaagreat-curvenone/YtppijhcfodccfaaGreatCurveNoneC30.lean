/-
  A group is made.
-/
import Derived.Test.YtppijhcfodccfaaGreatCurveNoneC24
import Derived.Test.YtppijhcfodccfaaGreatCurveNoneC04
import Derived.Test.YtppijhcfodccfaaGreatCurveNoneC23
namespace Go.Proofs.YtppijhcfodccfaaGreat.Q4
open Go.RowKit Go.Shelf

/-- The field that a group stands on. -/
structure FAt (w : World) (p m : Nat) : Prop where
  ok : FOK w p m
  plt : p < w.heap.size

theorem FAt.below {w w' : World} {p m : Nat} (h : FAt w p m) (hb : Below w.heap.size w w') : FAt w' p m := ⟨h.ok.of_same (hb.block _ h.plt), Nat.lt_of_lt_of_le h.plt hb.size⟩

noncomputable def te (o b x y : K) (k : Nat) : Array Value := Classical.choose (⟨_, rfl⟩ : ∃ C : Array Value, C = nv o ++ (nv b ++ (pt x y false ++ W4.cs (limb k))))

theorem te_eq (o b x y : K) (k : Nat) : te o b x y k = nv o ++ (nv b ++ (pt x y false ++ W4.cs (limb k))) := Classical.choose_spec (⟨_, rfl⟩ : ∃ C : Array Value, C = nv o ++ (nv b ++ (pt x y false ++ W4.cs (limb k))))

noncomputable def gc (m p : Nat) (b x y : K) (k : Nat) : Array Value := Classical.choose (⟨_, rfl⟩ : ∃ C : Array Value, C = #[ifv p] ++ (ev m k0 ++ (ev m k1 ++ (ev m b ++ (pt x y false ++ W4.cs (limb k))))))

theorem gc_eq (m p : Nat) (b x y : K) (k : Nat) : gc m p b x y k = #[ifv p] ++ (ev m k0 ++ (ev m k1 ++ (ev m b ++ (pt x y false ++ W4.cs (limb k))))) := Classical.choose_spec (⟨_, rfl⟩ : ∃ C : Array Value, C = #[ifv p] ++ (ev m k0 ++ (ev m k1 ++ (ev m b ++ (pt x y false ++ W4.cs (limb k))))))

theorem underTe : Tryz.prog.underlying 135 = some (.struct (fsOf (Tryz.prog.underlying 135))) := by kernel_rfl

theorem te_size (o b x y : K) (k : Nat) : (te o b x y k).size = 4 * 8 + 5 := by
  rw [te_eq, Array.size_append, Array.size_append, Array.size_append, nv_size, nv_size, pt_size, W4.cs_size]

theorem te_one (o b x y : K) (k : Nat) : (te o b x y k).all (·.oneCell') = true := by
  rw [te_eq]
  exact all_append' (nv_one _) (all_append' (nv_one _) (all_append' (pt_one _ _ _) (W4.one _)))

theorem infoTe {C : Array Value} (h : C.size = 4 * 8 + 5) : (Tryz.prog.info? 135).map (·.size) = some C.size := by rw [h]; kernel_rfl

section
variable {w : World} {B t k : Nat} {o b x y : K}
theorem te_o (h : w.heap[B]? = some (.cells (te o b x y k) t (0, 0))) : w.rangeAt B 0 (nv o).toList := by
  refine range_mid (A := #[]) (C := nv b ++ (pt x y false ++ W4.cs (limb k))) (t := t) ?_ rfl
  rw [h, te_eq, Array.empty_append]

theorem te_b (h : w.heap[B]? = some (.cells (te o b x y k) t (0, 0))) : w.rangeAt B 8 (nv b).toList := by
  refine range_mid (A := nv o) (C := pt x y false ++ W4.cs (limb k)) (t := t) ?_ (nv_size _)
  rw [h, te_eq]

theorem te_p (h : w.heap[B]? = some (.cells (te o b x y k) t (0, 0))) : w.rangeAt B (2 * 8) (pt x y false).toList := by
  refine range_mid (A := nv o ++ nv b) (C := W4.cs (limb k)) (t := t) ?_ (by rw [Array.size_append, nv_size, nv_size])
  rw [h, te_eq, Array.append_assoc]

theorem te_k (h : w.heap[B]? = some (.cells (te o b x y k) t (0, 0))) : w.rangeAt B (4 * 8 + 1) (W4.cs (limb k)).toList := by
  refine range_mid (A := nv o ++ (nv b ++ pt x y false)) (C := #[]) (t := t) ?_ (by rw [Array.size_append, Array.size_append, nv_size, nv_size, pt_size])
  rw [h, te_eq, Array.append_empty, Array.append_assoc, Array.append_assoc]

end

/-- A group that was just made. -/
theorem made {w : World} {g p m k : Nat} {b x y : K} (h : w.heap[g]? = some (.cells (gc m p b x y k) 240 (0, 0))) (hp : FAt w p m) : GAt w g p m b ∧ GB w g x y k := by
  have hg := lt_of_block h
  rw [gc_eq] at h
  have s1 : (#[ifv p] : Array Value).size = 1 := rfl
  have h0 := range_mid (A := #[]) (B := #[ifv p]) (o := 0) (by rw [Array.empty_append]; exact h) rfl
  have h1 := range_mid (A := #[ifv p]) (B := ev m k0) (o := 1) h rfl
  have h2 := range_mid (A := #[ifv p] ++ ev m k0) (B := ev m k1) (C := ev m b ++ (pt x y false ++ W4.cs (limb k))) (o := 1 + 8) (by rw [Array.append_assoc]; exact h) (by rw [Array.size_append, ev_size, s1])
  have h3 := range_mid (A := #[ifv p] ++ (ev m k0 ++ ev m k1)) (B := ev m b) (C := pt x y false ++ W4.cs (limb k)) (o := 1 + 2 * 8) (by rw [Array.append_assoc, Array.append_assoc]; exact h) (by rw [Array.size_append, Array.size_append, ev_size, ev_size, s1])
  have h4 := range_mid (A := #[ifv p] ++ (ev m k0 ++ (ev m k1 ++ ev m b))) (B := pt x y false) (C := W4.cs (limb k)) (o := 1 + 3 * 8) (by rw [Array.append_assoc, Array.append_assoc, Array.append_assoc]; exact h) (by rw [Array.size_append, Array.size_append, Array.size_append, ev_size, ev_size, ev_size, s1])
  have h5 := range_mid (A := #[ifv p] ++ (ev m k0 ++ (ev m k1 ++ (ev m b ++ pt x y false)))) (B := W4.cs (limb k)) (C := #[]) (o := 2 + 5 * 8) (by rw [Array.append_empty, Array.append_assoc, Array.append_assoc, Array.append_assoc, Array.append_assoc]; exact h) (by rw [Array.size_append, Array.size_append, Array.size_append, Array.size_append, ev_size, ev_size, ev_size, pt_size, s1])
  exact ⟨⟨h0 0 _ rfl, h1, h2, h3, hp.ok, hg, hp.plt⟩, ⟨h4, h5, hg⟩⟩

theorem build_gc {A B C D E : Array Value} (hA : A.size = 8) (hB : B.size = 8) (hC : C.size = 8) (hD : D.size = 2 * 8 + 1) (hE : E.size = 4) (p : Nat) (w : World) :
    (Instr.build 240 #[(0, ifv p), (1, .agg A), (2, .agg B), (3, .agg C), (4, .agg D), (5, .agg E)]).run Tryz.prog w = .ok (.agg (#[ifv p] ++ (A ++ (B ++ (C ++ (D ++ E)))))) w := by
  refine build_struct (fs := fsOf (Tryz.prog.underlying 240)) (z := #[] ++ (#[.nilIface] ++ (zn ++ (zn ++ (zn ++ ((zn ++ zn ++ #[.bool false]) ++ Array.replicate 4 (.int .u64 0))))))) (places := #[(0, 1), (1, 8), (1 + 8, 8), (1 + 2 * 8, 8), (1 + 3 * 8, 2 * 8 + 1), (2 + 5 * 8, 4)]) (by kernel_rfl) (by kernel_rfl) (by kernel_rfl) ?_
  have s1 : (#[ifv p] : Array Value).size = 1 := rfl
  have sd : (zn ++ zn ++ #[Value.bool false]).size = 2 * 8 + 1 := rfl
  rw [fill_cons (X := #[ifv p]) rfl (off := 0) (size := 1) rfl rfl rfl rfl, Array.empty_append]
  rw [fill_cons (X := A) rfl (off := 1) (size := 8) rfl hA rfl zn_size]
  rw [← Array.append_assoc (xs := #[ifv p]), fill_cons (X := B) rfl (off := 1 + 8) (size := 8) rfl hB (by rw [Array.size_append, hA, s1]) zn_size]
  rw [← Array.append_assoc (xs := #[ifv p] ++ A), fill_cons (X := C) rfl (off := 1 + 2 * 8) (size := 8) rfl hC (by rw [Array.size_append, Array.size_append, hA, hB, s1]) zn_size]
  rw [← Array.append_assoc (xs := #[ifv p] ++ A ++ B), fill_cons (X := D) rfl (off := 1 + 3 * 8) (size := 2 * 8 + 1) rfl hD (by rw [Array.size_append, Array.size_append, Array.size_append, hA, hB, hC, s1]) sd]
  have e : #[ifv p] ++ A ++ B ++ C ++ (D ++ Array.replicate 4 (Value.int .u64 0)) = (#[ifv p] ++ A ++ B ++ C ++ D) ++ (Array.replicate 4 (.int .u64 0) ++ #[]) := by rw [Array.append_empty, ← Array.append_assoc]
  rw [e, fill_cons (X := E) rfl (off := 2 + 5 * 8) (size := 4) rfl hE (by rw [Array.size_append, Array.size_append, Array.size_append, Array.size_append, hA, hB, hC, hD, s1]) (by simp), Array.append_empty]
  simp only [Array.append_assoc]
  rfl

theorem bd_gc (m p : Nat) (b x y : K) (k : Nat) (w : World) : (Instr.build 240 #[(0, ifv p), (1, .agg (ev m k0)), (2, .agg (ev m k1)), (3, .agg (ev m b)), (4, .agg (pt x y false)), (5, .agg (W4.cs (limb k)))]).run Tryz.prog w = .ok (.agg (gc m p b x y k)) w := by
  rw [gc_eq]
  exact build_gc (ev_size _ _) (ev_size _ _) (ev_size _ _) (pt_size _ _ _) (W4.cs_size _) p w

theorem yields_buildN {P : Program} {ops : Array Oper} {S : World → Prop} {op : Oper} {a : Act} (hw : Region.wanted op (yielded ops a.tmps) = true) (t : TypeId) (ps : Array (Nat × Operand)) (vs : Array (Nat × Value)) (ho : op.op = .build t ps) (hps : ps.map (fun x => (x.1, a.eval x.2)) = vs) {v : Value} (hb : ∀ w, (Instr.build t vs).run P w = .ok v w) : YieldsIf P ops S op v a :=
  .inl ⟨hw, fun w _ => by
    unfold execOp
    simp only [ho, hps, hb, Sem.run_bind, Sem.run_pure, Result.andThen]⟩

end Go.Proofs.YtppijhcfodccfaaGreat.Q4

namespace Go.Proofs.YtppijhcfodccfaaGreat.Q4
open Go.RowKit Go.Shelf

theorem underW4 : Tryz.prog.underlying 32 = some (.array 4 27) := by kernel_rfl

theorem infoW4 {C : Array Value} (h : C.size = 4) : (Tryz.prog.info? 32).map (·.size) = some C.size := by rw [h]; kernel_rfl

theorem at_worldK9 {K : Act → World → Prop} {a : Act} {w : World} (h : ∀ W, W = w → K a W) : K a w := h w rfl

set_option maxHeartbeats 4000000 in
set_option maxRecDepth 100000 in
theorem newGroup_any {w : World} {p m : Nat} (hG : FAt w p m) (b bx bY : K) (k : Nat) (h1 : Fits k1) (hb : Fits b) : Calls Tryz.prog 75 #[ifv p, .agg (te k1 b bx bY k)] w fun e w' => (∃ g, e = .returned (.pointer (some ⟨g, 0, none⟩)) ∧ w.heap.size ≤ g ∧ GAt w' g p m b ∧ GB w' g bx bY k) ∧ Below w.heap.size w w' := by
  have hp := hG.plt
  have HG9 := hideP hG
  clear hG
  go_enter Tryz.func75, Tryz.ntmps75
  refine wp_seqH (fun K0 HK0 => ?_)
  go_wp2_with fail
  refine HK0.out _ _ ?_
  clear HK0 K0
  refine wp_seqH (fun K0 HK0 => ?_)
  go_wp2_with fail
  refine HK0.out _ _ ?_
  clear HK0 K0
  refine at_world (fun W0 hW0 => ?_)
  have hb0 : W0.heap[w.heap.size]? = some (.cells (te k1 b bx bY k) 135 (0, 0)) := by
    rw [hW0]
    exact ((heap_old _ _ (by simp <;> omega)).trans (heap_new _ _))
  have hb1 : W0.heap[w.heap.size + 1]? = some (.cells (nv k0) 47 (0, 0)) := by
    rw [hW0, nv_zero]
    exact heap_new1 _ _ _
  have hbw : Below w.heap.size w W0 := by
    rw [hW0]
    repeat first | exact Below.refl _ _ | (refine Below.alloc ?_ (by simp <;> omega) _)
  clear hW0
  have HG := hideP (HG9.out.below hbw)
  clear HG9
  have HBW := hideP hbw
  clear hbw
  generalize hN : w.heap.size = N at *
  clear hN
  generalize hB1 : N + 1 = B1 at *
  have o1 : N < B1 := by omega
  clear hB1
  have H0 := hideP hb0
  have H1 := hideP hb1
  clear hb0 hb1
  refine wp_seqH (fun K1 HK1 => ?_)
  refine wp_region_heldS (S := fun V => Below W0.heap.size W0 V) (by kernel_rfl) (Below.refl _ _).drew (fun hS => ?_)
  refine wpAnyH_takeL (i := 0) (v := ?_) rfl (by kernel_rfl) (by kernel_rfl) (by kernel_rfl) (fun _ _ _ h => h) (Or.inl ⟨by kernel_rfl, ?_⟩) hS ?_
  rotate_left
  · intro V hV
    go_simp
    (try with_reducible rfl)
  simp only [put_list, List.set_cons_succ, List.set_cons_zero]
  refine wpAnyH_takeL (i := 1) (v := ?_) rfl (by kernel_rfl) (by kernel_rfl) (by kernel_rfl) (fun _ _ _ h => h) (Or.inl ⟨by kernel_rfl, ?_⟩) hS ?_
  rotate_left
  · intro V hV
    go_simp
    (try with_reducible rfl)
  simp only [put_list, List.set_cons_succ, List.set_cons_zero]
  refine wpAnyH_takeL (i := 2) (v := .agg (nv (k0))) rfl (by kernel_rfl) (by kernel_rfl) (by kernel_rfl) (fun _ _ _ h => h) (yields_loadC (by kernel_rfl) 47 _ rfl (B1) (0) rfl (nv (k0)) _ (fun V hV => rangeOf ((hV.block _ (lt_of_block H1.out)).trans H1.out)) underE rfl (infoE (nv_size _))) hS ?_
  simp only [put_list, List.set_cons_succ, List.set_cons_zero]
  refine wpAnyH_takeL (i := 4) (v := ?_) rfl (by kernel_rfl) (by kernel_rfl) (by kernel_rfl) (fun _ _ _ h => h) (Or.inl ⟨by kernel_rfl, ?_⟩) hS ?_
  rotate_left
  · intro V hV
    go_simp
    (try with_reducible rfl)
  simp only [put_list, List.set_cons_succ, List.set_cons_zero]
  refine wpAnyH_takeL (i := 5) (v := ?_) rfl (by kernel_rfl) (by kernel_rfl) (by kernel_rfl) (fun _ _ _ h => h) (Or.inl ⟨by kernel_rfl, ?_⟩) hS ?_
  rotate_left
  · intro V hV
    go_simp
    (try with_reducible rfl)
  simp only [put_list, List.set_cons_succ, List.set_cons_zero]
  refine wpAnyH_takeL (i := 6) (v := .agg (nv (k1))) rfl (by kernel_rfl) (by kernel_rfl) (by kernel_rfl) (fun _ _ _ h => h) (yields_loadC (by kernel_rfl) 47 _ rfl (N) (0) rfl (nv (k1)) _ (fun V hV => te_o ((hV.block _ (lt_of_block H0.out)).trans H0.out)) underE rfl (infoE (nv_size _))) hS ?_
  simp only [put_list, List.set_cons_succ, List.set_cons_zero]
  refine wpAnyH_takeL (i := 8) (v := ?_) rfl (by kernel_rfl) (by kernel_rfl) (by kernel_rfl) (fun _ _ _ h => h) (Or.inl ⟨by kernel_rfl, ?_⟩) hS ?_
  rotate_left
  · intro V hV
    go_simp
    (try with_reducible rfl)
  simp only [put_list, List.set_cons_succ, List.set_cons_zero]
  refine wpAnyH_takeL (i := 9) (v := ?_) rfl (by kernel_rfl) (by kernel_rfl) (by kernel_rfl) (fun _ _ _ h => h) (Or.inl ⟨by kernel_rfl, ?_⟩) hS ?_
  rotate_left
  · intro V hV
    go_simp
    (try with_reducible rfl)
  simp only [put_list, List.set_cons_succ, List.set_cons_zero]
  refine wpAnyH_takeL (i := 10) (v := .agg (nv (b))) rfl (by kernel_rfl) (by kernel_rfl) (by kernel_rfl) (fun _ _ _ h => h) (yields_loadC (by kernel_rfl) 47 _ rfl (N) (8) rfl (nv (b)) _ (fun V hV => te_b ((hV.block _ (lt_of_block H0.out)).trans H0.out)) underE rfl (infoE (nv_size _))) hS ?_
  simp only [put_list, List.set_cons_succ, List.set_cons_zero]
  refine wpAnyH_takeL (i := 12) (v := ?_) rfl (by kernel_rfl) (by kernel_rfl) (by kernel_rfl) (fun _ _ _ h => h) (Or.inl ⟨by kernel_rfl, ?_⟩) hS ?_
  rotate_left
  · intro V hV
    go_simp
    (try with_reducible rfl)
  simp only [put_list, List.set_cons_succ, List.set_cons_zero]
  refine wpAnyH_takeL (i := 13) (v := .agg (pt (bx) (bY) (false))) rfl (by kernel_rfl) (by kernel_rfl) (by kernel_rfl) (fun _ _ _ h => h) (yields_loadC (by kernel_rfl) 133 _ rfl (N) (16) rfl (pt (bx) (bY) (false)) _ (fun V hV => te_p ((hV.block _ (lt_of_block H0.out)).trans H0.out)) underPt rfl (infoPt (pt_size _ _ _))) hS ?_
  simp only [put_list, List.set_cons_succ, List.set_cons_zero]
  refine wpAnyH_takeL (i := 14) (v := ?_) rfl (by kernel_rfl) (by kernel_rfl) (by kernel_rfl) (fun _ _ _ h => h) (Or.inl ⟨by kernel_rfl, ?_⟩) hS ?_
  rotate_left
  · intro V hV
    go_simp
    (try with_reducible rfl)
  simp only [put_list, List.set_cons_succ, List.set_cons_zero]
  refine wpAnyH_takeL (i := 15) (v := .agg (W4.cs (limb k))) rfl (by kernel_rfl) (by kernel_rfl) (by kernel_rfl) (fun _ _ _ h => h) (yields_loadC (by kernel_rfl) 32 _ rfl (N) (33) rfl (W4.cs (limb k)) _ (fun V hV => te_k ((hV.block _ (lt_of_block H0.out)).trans H0.out)) underW4 rfl (infoW4 (W4.cs_size _))) hS ?_
  simp only [put_list, List.set_cons_succ, List.set_cons_zero]
  refine wpAnyH_ready (rs := [3]) (by kernel_rfl) (by simp) (AllReadyH.cons rfl (fun K hK => ?_) AllReadyH.nil)
  refine ite_wp (by kernel_rfl) ?_
  refine wp_invoke1D (.tmp 7) (.tmp 8) "In" _ 9 rfl rfl rfl rfl (cm_In p _ _) (c_In ((HG.out.below hS).ok) (k0) k0_fits) ?_
  intro x6 hbc
  refine hK.out _ _ (hS.trans (hbc.mono hS.size)) (fun hS => ?_)
  clear hK K hbc
  simp only [List.set_cons_succ, List.set_cons_zero]
  refine wpAnyH_ready (rs := [7]) (by kernel_rfl) (by simp) (AllReadyH.cons rfl (fun K hK => ?_) AllReadyH.nil)
  refine ite_wp (by kernel_rfl) ?_
  refine wp_invoke1D (.tmp 10) (.tmp 12) "In" _ 13 rfl rfl rfl rfl (cm_In p _ _) (c_In ((HG.out.below hS).ok) (k1) h1) ?_
  intro x7 hbc
  refine hK.out _ _ (hS.trans (hbc.mono hS.size)) (fun hS => ?_)
  clear hK K hbc
  simp only [List.set_cons_succ, List.set_cons_zero]
  refine wpAnyH_ready (rs := [11]) (by kernel_rfl) (by simp) (AllReadyH.cons rfl (fun K hK => ?_) AllReadyH.nil)
  refine ite_wp (by kernel_rfl) ?_
  refine wp_invoke1D (.tmp 14) (.tmp 16) "In" _ 17 rfl rfl rfl rfl (cm_In p _ _) (c_In ((HG.out.below hS).ok) (b) hb) ?_
  intro x8 hbc
  refine hK.out _ _ (hS.trans (hbc.mono hS.size)) (fun hS => ?_)
  clear hK K hbc
  simp only [List.set_cons_succ, List.set_cons_zero]
  refine wpAnyH_takeL (i := 16) (v := .agg (gc m p b bx bY k)) rfl (by kernel_rfl) (by kernel_rfl) (by kernel_rfl) (fun _ _ _ h => h) (yields_buildN (by kernel_rfl) 240 _ #[(0, ifv p), (1, .agg (ev m k0)), (2, .agg (ev m k1)), (3, .agg (ev m b)), (4, .agg (pt bx bY false)), (5, .agg (W4.cs (limb k)))] rfl (by simp only [List.map_toArray, List.map_cons, List.map_nil]; rfl) (fun w => bd_gc _ _ _ _ _ _ w)) hS ?_
  simp only [put_list, List.set_cons_succ, List.set_cons_zero]
  refine wpAnyH_ready (rs := [17]) (by kernel_rfl) (by simp) (AllReadyH.cons rfl (fun K hK => ?_) AllReadyH.nil)
  refine ite_wp (by kernel_rfl) ?_
  have HK := hideP hK
  clear hK
  go_simp
  refine at_worldK9 (fun x9 hx9 => ?_)
  have h9 := heap_new x8 (.cells (gc m p b bx bY k) 240 (0, 0))
  have l9 := hS.size
  have hS9 := hS.alloc hS.size (.cells (gc m p b bx bY k) 240 (0, 0))
  rw [← hx9] at h9 hS9
  clear hS hx9
  generalize x8.heap.size = L at *
  refine HK.out.out _ _ hS9 (fun hS => ?_)
  clear HK K hS9
  refine wpAnyH_takeL (i := 18) (v := ?_) rfl (by kernel_rfl) (by kernel_rfl) (by kernel_rfl) (fun _ _ _ h => h) (Or.inl ⟨by kernel_rfl, ?_⟩) hS ?_
  rotate_left
  · intro V hV
    go_simp
    (try with_reducible rfl)
  simp only [put_list, List.set_cons_succ, List.set_cons_zero]
  refine wpAnyH_done (by kernel_rfl) ?_ _
  (try simp only [put_none])
  refine HK1.out _ _ ?_
  clear HK1 K1
  refine wp_ret ?_
  have hlt := HG.out.plt
  have l0 := lt_of_block H1.out
  obtain ⟨m1, m2⟩ := made h9 (HG.out.below hS)
  exact bodyPost_ret_by (results_tmp rfl _ _ _) rfl ⟨⟨L, rfl, by omega, m1, m2⟩, HBW.out.trans (hS.mono (by omega))⟩

end Go.Proofs.YtppijhcfodccfaaGreat.Q4
