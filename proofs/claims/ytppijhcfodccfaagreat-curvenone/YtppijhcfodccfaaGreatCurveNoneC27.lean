/-
  Bytes: slices of them, their numbers, their texts.
-/
import Derived.Test.YtppijhcfodccfaaGreatCurveNoneC02
import Derived.Test.YtppijhcfodccfaaGreatCurveNoneC23
import Derived.Test.YtppijhcfodccfaaGreatCurveNoneC24
import Derived.OwnWalk
import Derived.Laws.CopyOwn
import Derived.Deep.Upon
import Derived.Laws.IdiomStrings
import Derived.Laws.BytesArg
namespace Go.Proofs.YtppijhcfodccfaaGreat.W6
open Go.RowKit Go.Shelf

/-- The cells of so many limbs. -/
def cs (g : Nat → Nat) : Array Value := #[.int .u64 (g 0), .int .u64 (g 1), .int .u64 (g 2), .int .u64 (g 3), .int .u64 (g 4), .int .u64 (g 5)]

theorem get (g : Nat → Nat) {j : Nat} (h : j < 6) : (cs g)[j]? = some (.int .u64 (g j)) := by
  match j, h with
  | 0, _ => rfl
  | 1, _ => rfl
  | 2, _ => rfl
  | 3, _ => rfl
  | 4, _ => rfl
  | 5, _ => rfl
  | k + 6, h => exact absurd h (by omega)

theorem set (g : Nat → Nat) {j : Nat} (v : Nat) (h : j < 6) : (cs g).setIfInBounds j (.int .u64 v) = cs (fun i => if i = j then v else g i) := by
  match j, h with
  | 0, _ => rfl
  | 1, _ => rfl
  | 2, _ => rfl
  | 3, _ => rfl
  | 4, _ => rfl
  | 5, _ => rfl
  | k + 6, h => exact absurd h (by omega)

theorem under : Tryz.prog.underlying 28 = some (.array 6 27) := by kernel_rfl

theorem info (g : Nat → Nat) : (Tryz.prog.info? 28).map (·.size) = some (cs g).size := by kernel_rfl

theorem one (g : Nat → Nat) : (cs g).all (·.oneCell') = true := by simp [cs, Value.oneCell']

theorem cs_size (g : Nat → Nat) : (cs g).size = 6 := rfl

/-- 2 to so many bits. -/
def R : Nat := 39402006196394479212279040100143613805079739270465446667948293404245721771497210611414266254884915640806627990306816

theorem R_eq : R = 18446744073709551616 ^ 6 := by decide

theorem R_two : ∃ k, R = 2 ^ k := ⟨64 * 6, by rw [R_eq, show (18446744073709551616 : Nat) = 2 ^ 64 by decide, ← Nat.pow_mul]⟩

/-- The value of a number (of its rest modulo R). -/
def wv (X : Nat) : Value := .agg (cs (limb X))

theorem wv_lit (X : Nat) : wv X = .agg #[.int .u64 (limb X 0), .int .u64 (limb X 1), .int .u64 (limb X 2), .int .u64 (limb X 3), .int .u64 (limb X 4), .int .u64 (limb X 5)] := rfl

theorem cs_congr {f g : Nat → Nat} (h : ∀ j, j < 6 → f j = g j) : cs f = cs g := by
  unfold cs
  rw [h 0 (by omega), h 1 (by omega), h 2 (by omega), h 3 (by omega), h 4 (by omega), h 5 (by omega)]

theorem wv_val {g : Nat → Nat} (h : ∀ j, j < 6 → g j < 18446744073709551616) : Value.agg (cs g) = wv (val g 6) := by
  unfold wv
  rw [cs_congr (fun j hj => (limb_val 6 h hj).symm)]

theorem val_limbs {X : Nat} (h : X < R) : val (limb X) 6 = X := by
  rw [val_limb, ← R_eq, Nat.mod_eq_of_lt h]

theorem val_ltR {g : Nat → Nat} (h : ∀ j, j < 6 → g j < 18446744073709551616) : val g 6 < R := by
  rw [R_eq]; exact val_lt _ h

theorem cells {w : World} {b t : Nat} {g : Nat → Nat} (h : w.heap[b]? = some (.cells (cs g) t (0, 0))) : w.cell? ⟨b, 0, none⟩ = some (.int .u64 (g 0)) ∧ w.cell? ⟨b, 1, none⟩ = some (.int .u64 (g 1)) ∧ w.cell? ⟨b, 2, none⟩ = some (.int .u64 (g 2)) ∧ w.cell? ⟨b, 3, none⟩ = some (.int .u64 (g 3)) ∧ w.cell? ⟨b, 4, none⟩ = some (.int .u64 (g 4)) ∧ w.cell? ⟨b, 5, none⟩ = some (.int .u64 (g 5)) :=
  ⟨blk_cell h rfl, blk_cell h rfl, blk_cell h rfl, blk_cell h rfl, blk_cell h rfl, blk_cell h rfl⟩

end Go.Proofs.YtppijhcfodccfaaGreat.W6

namespace Go.Proofs.YtppijhcfodccfaaGreat
open Go.RowKit Go.Shelf

/-- The cells of a plain point. -/
noncomputable def pn (a b c d : Nat) (i : Bool) : Array Value := Classical.choose (⟨_, rfl⟩ : ∃ C : Array Value, C = W6.cs (limb a) ++ (W6.cs (limb b) ++ (W6.cs (limb c) ++ (W6.cs (limb d) ++ #[.bool i]))))

theorem pn_eq (a b c d : Nat) (i : Bool) : pn a b c d i = W6.cs (limb a) ++ (W6.cs (limb b) ++ (W6.cs (limb c) ++ (W6.cs (limb d) ++ #[.bool i]))) := Classical.choose_spec (⟨_, rfl⟩ : ∃ C : Array Value, C = W6.cs (limb a) ++ (W6.cs (limb b) ++ (W6.cs (limb c) ++ (W6.cs (limb d) ++ #[.bool i]))))

/-- The lower four limbs. -/
def lo4 (a : Nat) : Nat := a % W4.R

theorem lo4_limb (a j : Nat) (hj : j < 4) : limb (lo4 a) j = limb a j := by
  unfold lo4 limb
  have e : W4.R = 18446744073709551616 ^ j * 18446744073709551616 * 18446744073709551616 ^ (3 - j) := by
    rw [← Nat.pow_succ, ← Nat.pow_add, show j.succ + (3 - j) = 4 by omega]
    decide +kernel
  rw [e, Nat.mul_assoc, Nat.mod_mul_right_div_self, Nat.mod_mul_right_mod]

theorem six_four (a : Nat) : W6.cs (limb a) = P4.nv (lo4 a) ++ #[.int .u64 (limb a 4), .int .u64 (limb a 5)] := by
  rw [P4.nv_eq, show W4.cs (limb (lo4 a)) = #[.int .u64 (limb (lo4 a) 0), .int .u64 (limb (lo4 a) 1), .int .u64 (limb (lo4 a) 2), .int .u64 (limb (lo4 a) 3)] from rfl, lo4_limb a 0 (by omega), lo4_limb a 1 (by omega), lo4_limb a 2 (by omega), lo4_limb a 3 (by omega)]
  rfl

section
variable {w : World} {B t a b c d : Nat} {i : Bool}
theorem pn_0 (h : w.heap[B]? = some (.cells (pn a b c d i) t (0, 0))) : w.rangeAt B 0 (P4.nv (lo4 a)).toList := by
  rw [pn_eq, six_four a, Array.append_assoc] at h
  exact range_mid (A := #[]) (by rw [Array.empty_append]; exact h) rfl

theorem pn_1 (h : w.heap[B]? = some (.cells (pn a b c d i) t (0, 0))) : w.rangeAt B 6 (P4.nv (lo4 b)).toList := by
  rw [pn_eq, six_four b, Array.append_assoc] at h
  exact range_mid (A := W6.cs (limb a)) h (W6.cs_size _)

theorem pn_2 (h : w.heap[B]? = some (.cells (pn a b c d i) t (0, 0))) : w.rangeAt B 12 (P4.nv (lo4 c)).toList := by
  rw [pn_eq, six_four c, Array.append_assoc (xs := P4.nv (lo4 c)), ← Array.append_assoc (xs := W6.cs (limb a))] at h
  exact range_mid (A := W6.cs (limb a) ++ W6.cs (limb b)) h (by rw [Array.size_append, W6.cs_size, W6.cs_size])

theorem pn_3 (h : w.heap[B]? = some (.cells (pn a b c d i) t (0, 0))) : w.rangeAt B 18 (P4.nv (lo4 d)).toList := by
  rw [pn_eq, six_four d, Array.append_assoc (xs := P4.nv (lo4 d)), ← Array.append_assoc (xs := W6.cs (limb b)), ← Array.append_assoc (xs := W6.cs (limb a))] at h
  exact range_mid (A := W6.cs (limb a) ++ (W6.cs (limb b) ++ W6.cs (limb c))) h (by rw [Array.size_append, Array.size_append, W6.cs_size, W6.cs_size, W6.cs_size])

theorem pn_i (h : w.heap[B]? = some (.cells (pn a b c d i) t (0, 0))) : w.cell? ⟨B, 24, none⟩ = some (.bool i) := by
  rw [pn_eq, ← Array.append_assoc (xs := W6.cs (limb c)), ← Array.append_assoc (xs := W6.cs (limb b)), ← Array.append_assoc (xs := W6.cs (limb a))] at h
  have := range_mid (A := W6.cs (limb a) ++ (W6.cs (limb b) ++ (W6.cs (limb c) ++ W6.cs (limb d)))) (B := #[.bool i]) (C := #[]) (o := 24) (by rw [Array.append_empty]; exact h) (by rw [Array.size_append, Array.size_append, Array.size_append, W6.cs_size, W6.cs_size, W6.cs_size, W6.cs_size])
  exact this 0 _ rfl

end

theorem pn_size (a b c d : Nat) (i : Bool) : (pn a b c d i).size = 25 := by
  rw [pn_eq, Array.size_append, Array.size_append, Array.size_append, Array.size_append, W6.cs_size, W6.cs_size, W6.cs_size, W6.cs_size]
  rfl

theorem underPn : Tryz.prog.underlying 30 = some (.struct (fsOf (Tryz.prog.underlying 30))) := by kernel_rfl

theorem infoPn {C : Array Value} (h : C.size = 25) : (Tryz.prog.info? 30).map (·.size) = some C.size := by rw [h]; kernel_rfl

theorem arrayAt_part (B o : Nat) (W : World) : (Instr.arrayAt 32 (.slice (some ⟨B, o, none⟩) 4 6)).run Tryz.prog W = .ok (.pointer (some ⟨B, o, none⟩)) W := by
  simp [Instr.arrayAt, run_underlying W4.under]

end Go.Proofs.YtppijhcfodccfaaGreat

namespace Go.Proofs.YtppijhcfodccfaaGreat
open Go.RowKit Go.Shelf

theorem yields_buildN9 {P : Program} {ops : Array Oper} {S : World → Prop} {op : Oper} {a : Act} (hw : Region.wanted op (yielded ops a.tmps) = true) (t : TypeId) (ps : Array (Nat × Operand)) (vs : Array (Nat × Value)) (ho : op.op = .build t ps) (hps : ps.map (fun x => (x.1, a.eval x.2)) = vs) {v : Value} (hb : ∀ w, (Instr.build t vs).run P w = .ok v w) : YieldsIf P ops S op v a :=
  .inl ⟨hw, fun w _ => by
    unfold execOp
    simp only [ho, hps, hb, Sem.run_bind, Sem.run_pure, Result.andThen]⟩

set_option maxHeartbeats 4000000 in
set_option maxRecDepth 100000 in
theorem bn1_any (a b c d : Nat) (i : Bool) (w : World) : Calls Tryz.prog 33 #[.agg (pn a b c d i)] w fun e w' => e = .returned (.agg (P4.pt (lo4 a) (lo4 c) i)) ∧ Below w.heap.size w w' := by
  go_enter Tryz.func33, Tryz.ntmps33
  refine wp_seqH (fun K0 HK0 => ?_)
  go_wp2_with fail
  refine HK0.out _ _ ?_
  clear HK0 K0
  refine at_world (fun W0 hW0 => ?_)
  have hb0 : W0.heap[w.heap.size]? = some (.cells (pn a b c d i) 30 (0, 0)) := by
    rw [hW0]
    exact ((heap_old _ _ (by simp <;> omega)).trans (heap_new _ _))
  have hbr : ∃ C : Array Value, W0.heap[w.heap.size + 1]? = some (.cells C 34 (0, 0)) ∧ C.size = 9 := by
    rw [hW0]
    exact ⟨_, heap_new1 _ _ _, rfl⟩
  have hbw : Below w.heap.size w W0 := by
    rw [hW0]
    repeat first | exact Below.refl _ _ | (refine Below.alloc ?_ (by simp <;> omega) _)
  clear hW0
  obtain ⟨C, hC, hs⟩ := hbr
  have HC := hideP hC
  have H0 := hideP hb0
  have HBW := hideP hbw
  clear hC hb0 hbw
  generalize w.heap.size = N at *
  generalize hB1 : N + 1 = B1 at *
  have o1 : N < B1 := by omega
  clear hB1
  refine wp_seqH (fun K1 HK1 => ?_)
  refine wp_region_heldS (S := fun V => KQ W0 B1 9 34 V) (by kernel_rfl) (KQ.init HC.out hs) (fun hS => ?_)
  refine wpAnyH_takeL (i := 0) (v := ?_) rfl (by kernel_rfl) (by kernel_rfl) (by kernel_rfl) (fun _ _ _ h => h) (Or.inl ⟨by kernel_rfl, ?_⟩) hS ?_
  rotate_left
  · intro V hV
    go_simp
    (try with_reducible rfl)
  simp only [put_list, List.set_cons_succ, List.set_cons_zero]
  refine wpAnyH_takeL (i := 1) (v := .slice (some ⟨N, 0, none⟩) 4 6) rfl (by kernel_rfl) (by kernel_rfl) (by kernel_rfl) (fun _ _ _ h => h) (Or.inl ⟨by kernel_rfl, ?_⟩) hS ?_
  · intro V hV
    go_simp
    (try with_reducible rfl)
  simp only [put_list, List.set_cons_succ, List.set_cons_zero]
  refine wpAnyH_takeL (i := 2) (v := .pointer (some ⟨N, 0, none⟩)) rfl (by kernel_rfl) (by kernel_rfl) (by kernel_rfl) (fun _ _ _ h => h) (Or.inl ⟨by kernel_rfl, ?_⟩) hS ?_
  · intro V hV
    have har := arrayAt_part N 0 V
    go_simp
    (try with_reducible rfl)
  simp only [put_list, List.set_cons_succ, List.set_cons_zero]
  refine wpAnyH_takeL (i := 3) (v := .agg (P4.nv (lo4 a))) rfl (by kernel_rfl) (by kernel_rfl) (by kernel_rfl) (fun _ _ _ h => h) (yields_loadC (by kernel_rfl) 32 _ rfl N 0 rfl (P4.nv (lo4 a)) _ (fun V hV => pn_0 (hV.box H0.out (by omega))) P4.underE rfl (P4.infoE (P4.nv_size _))) hS ?_
  simp only [put_list, List.set_cons_succ, List.set_cons_zero]
  refine wpAnyH_takeL (i := 4) (v := ?_) rfl (by kernel_rfl) (by kernel_rfl) (by kernel_rfl) (fun _ _ _ h => h) (Or.inl ⟨by kernel_rfl, ?_⟩) hS ?_
  rotate_left
  · intro V hV
    go_simp
    (try with_reducible rfl)
  simp only [put_list, List.set_cons_succ, List.set_cons_zero]
  refine wpAnyH_takeL (i := 5) (v := .slice (some ⟨N, 12, none⟩) 4 6) rfl (by kernel_rfl) (by kernel_rfl) (by kernel_rfl) (fun _ _ _ h => h) (Or.inl ⟨by kernel_rfl, ?_⟩) hS ?_
  · intro V hV
    go_simp
    (try with_reducible rfl)
  simp only [put_list, List.set_cons_succ, List.set_cons_zero]
  refine wpAnyH_takeL (i := 6) (v := .pointer (some ⟨N, 12, none⟩)) rfl (by kernel_rfl) (by kernel_rfl) (by kernel_rfl) (fun _ _ _ h => h) (Or.inl ⟨by kernel_rfl, ?_⟩) hS ?_
  · intro V hV
    have har := arrayAt_part N 12 V
    go_simp
    (try with_reducible rfl)
  simp only [put_list, List.set_cons_succ, List.set_cons_zero]
  refine wpAnyH_takeL (i := 7) (v := .agg (P4.nv (lo4 c))) rfl (by kernel_rfl) (by kernel_rfl) (by kernel_rfl) (fun _ _ _ h => h) (yields_loadC (by kernel_rfl) 32 _ rfl N 12 rfl (P4.nv (lo4 c)) _ (fun V hV => pn_2 (hV.box H0.out (by omega))) P4.underE rfl (P4.infoE (P4.nv_size _))) hS ?_
  simp only [put_list, List.set_cons_succ, List.set_cons_zero]
  refine wpAnyH_takeL (i := 8) (v := ?_) rfl (by kernel_rfl) (by kernel_rfl) (by kernel_rfl) (fun _ _ _ h => h) (Or.inl ⟨by kernel_rfl, ?_⟩) hS ?_
  rotate_left
  · intro V hV
    go_simp
    (try with_reducible rfl)
  simp only [put_list, List.set_cons_succ, List.set_cons_zero]
  refine wpAnyH_takeL (i := 9) (v := .bool i) rfl (by kernel_rfl) (by kernel_rfl) (by kernel_rfl) (fun _ _ _ h => h) (Or.inl ⟨by kernel_rfl, ?_⟩) hS ?_
  · intro V hV
    have hf := pn_i (hV.box H0.out (by omega))
    go_simp
    (try with_reducible rfl)
  simp only [put_list, List.set_cons_succ, List.set_cons_zero]
  refine wpAnyH_takeL (i := 10) (v := .agg (P4.pt (lo4 a) (lo4 c) i)) rfl (by kernel_rfl) (by kernel_rfl) (by kernel_rfl) (fun _ _ _ h => h) (yields_buildN9 (by kernel_rfl) 34 _ #[(0, .agg (P4.nv (lo4 a))), (1, .agg (P4.nv (lo4 c))), (2, .bool i)] rfl (by simp only [List.map_toArray, List.map_cons, List.map_nil]; rfl) (fun w => P4.bd_a3 _ _ _ w)) hS ?_
  simp only [put_list, List.set_cons_succ, List.set_cons_zero]
  refine wpAnyH_ready (rs := [11]) (by kernel_rfl) (by simp) (AllReadyH.cons rfl (fun K hK => ?_) AllReadyH.nil)
  refine ite_wp (by kernel_rfl) ?_
  refine wp_store_midN 34 (.tmp 2) (.tmp 13) rfl rfl B1 0 (P4.pt (lo4 a) (lo4 c) i) rfl rfl (hS.there (P4.pt_size _ _ _)) (P4.infoA (P4.pt_size _ _ _)) (P4.pt_one _ _ _) ?_
  have g1 := hS.put (C := P4.pt (lo4 a) (lo4 c) i) (P4.pt_size _ _ _)
  have hS9 := hS.store (C := P4.pt (lo4 a) (lo4 c) i) (P4.pt_size _ _ _)
  clear hS
  generalize World.setCells _ B1 0 (P4.pt (lo4 a) (lo4 c) i).toList = x1 at g1 hS9 ⊢
  refine hK.out _ _ hS9 (fun hS => ?_)
  clear hK K hS9
  refine wpAnyH_done (by kernel_rfl) ?_ _
  (try simp only [put_none])
  refine HK1.out _ _ ?_
  refine wp_ret ?_
  exact bodyPost_ret_by (results_cell rfl rfl (loadC _ B1 0 34 (P4.pt (lo4 a) (lo4 c) i) _ (rangeOf g1) P4.underA rfl (P4.infoA (P4.pt_size _ _ _)))) rfl ⟨rfl, HBW.out.trans (hS.below.mono (by omega))⟩

set_option maxHeartbeats 4000000 in
set_option maxRecDepth 100000 in
theorem bn2_any (a b c d : Nat) (i : Bool) (w : World) : Calls Tryz.prog 45 #[.agg (pn a b c d i)] w fun e w' => e = .returned (.agg (Q4.pt ((lo4 a, lo4 b)) ((lo4 c, lo4 d)) i)) ∧ Below w.heap.size w w' := by
  go_enter Tryz.func45, Tryz.ntmps45
  refine wp_seqH (fun K0 HK0 => ?_)
  go_wp2_with fail
  refine HK0.out _ _ ?_
  clear HK0 K0
  refine at_world (fun W0 hW0 => ?_)
  have hb0 : W0.heap[w.heap.size]? = some (.cells (pn a b c d i) 30 (0, 0)) := by
    rw [hW0]
    exact ((heap_old _ _ (by simp <;> omega)).trans (heap_new _ _))
  have hbr : ∃ C : Array Value, W0.heap[w.heap.size + 1]? = some (.cells C 49 (0, 0)) ∧ C.size = 17 := by
    rw [hW0]
    exact ⟨_, heap_new1 _ _ _, rfl⟩
  have hbw : Below w.heap.size w W0 := by
    rw [hW0]
    repeat first | exact Below.refl _ _ | (refine Below.alloc ?_ (by simp <;> omega) _)
  clear hW0
  obtain ⟨C, hC, hs⟩ := hbr
  have HC := hideP hC
  have H0 := hideP hb0
  have HBW := hideP hbw
  clear hC hb0 hbw
  generalize w.heap.size = N at *
  generalize hB1 : N + 1 = B1 at *
  have o1 : N < B1 := by omega
  clear hB1
  refine wp_seqH (fun K1 HK1 => ?_)
  refine wp_region_heldS (S := fun V => KQ W0 B1 17 49 V) (by kernel_rfl) (KQ.init HC.out hs) (fun hS => ?_)
  refine wpAnyH_takeL (i := 0) (v := ?_) rfl (by kernel_rfl) (by kernel_rfl) (by kernel_rfl) (fun _ _ _ h => h) (Or.inl ⟨by kernel_rfl, ?_⟩) hS ?_
  rotate_left
  · intro V hV
    go_simp
    (try with_reducible rfl)
  simp only [put_list, List.set_cons_succ, List.set_cons_zero]
  refine wpAnyH_takeL (i := 1) (v := .slice (some ⟨N, 0, none⟩) 4 6) rfl (by kernel_rfl) (by kernel_rfl) (by kernel_rfl) (fun _ _ _ h => h) (Or.inl ⟨by kernel_rfl, ?_⟩) hS ?_
  · intro V hV
    go_simp
    (try with_reducible rfl)
  simp only [put_list, List.set_cons_succ, List.set_cons_zero]
  refine wpAnyH_takeL (i := 2) (v := .pointer (some ⟨N, 0, none⟩)) rfl (by kernel_rfl) (by kernel_rfl) (by kernel_rfl) (fun _ _ _ h => h) (Or.inl ⟨by kernel_rfl, ?_⟩) hS ?_
  · intro V hV
    have har := arrayAt_part N 0 V
    go_simp
    (try with_reducible rfl)
  simp only [put_list, List.set_cons_succ, List.set_cons_zero]
  refine wpAnyH_takeL (i := 3) (v := .agg (P4.nv (lo4 a))) rfl (by kernel_rfl) (by kernel_rfl) (by kernel_rfl) (fun _ _ _ h => h) (yields_loadC (by kernel_rfl) 32 _ rfl N 0 rfl (P4.nv (lo4 a)) _ (fun V hV => pn_0 (hV.box H0.out (by omega))) P4.underE rfl (P4.infoE (P4.nv_size _))) hS ?_
  simp only [put_list, List.set_cons_succ, List.set_cons_zero]
  refine wpAnyH_takeL (i := 4) (v := ?_) rfl (by kernel_rfl) (by kernel_rfl) (by kernel_rfl) (fun _ _ _ h => h) (Or.inl ⟨by kernel_rfl, ?_⟩) hS ?_
  rotate_left
  · intro V hV
    go_simp
    (try with_reducible rfl)
  simp only [put_list, List.set_cons_succ, List.set_cons_zero]
  refine wpAnyH_takeL (i := 5) (v := .slice (some ⟨N, 6, none⟩) 4 6) rfl (by kernel_rfl) (by kernel_rfl) (by kernel_rfl) (fun _ _ _ h => h) (Or.inl ⟨by kernel_rfl, ?_⟩) hS ?_
  · intro V hV
    go_simp
    (try with_reducible rfl)
  simp only [put_list, List.set_cons_succ, List.set_cons_zero]
  refine wpAnyH_takeL (i := 6) (v := .pointer (some ⟨N, 6, none⟩)) rfl (by kernel_rfl) (by kernel_rfl) (by kernel_rfl) (fun _ _ _ h => h) (Or.inl ⟨by kernel_rfl, ?_⟩) hS ?_
  · intro V hV
    have har := arrayAt_part N 6 V
    go_simp
    (try with_reducible rfl)
  simp only [put_list, List.set_cons_succ, List.set_cons_zero]
  refine wpAnyH_takeL (i := 7) (v := .agg (P4.nv (lo4 b))) rfl (by kernel_rfl) (by kernel_rfl) (by kernel_rfl) (fun _ _ _ h => h) (yields_loadC (by kernel_rfl) 32 _ rfl N 6 rfl (P4.nv (lo4 b)) _ (fun V hV => pn_1 (hV.box H0.out (by omega))) P4.underE rfl (P4.infoE (P4.nv_size _))) hS ?_
  simp only [put_list, List.set_cons_succ, List.set_cons_zero]
  refine wpAnyH_takeL (i := 8) (v := .agg (Q4.nv (lo4 a, lo4 b))) rfl (by kernel_rfl) (by kernel_rfl) (by kernel_rfl) (fun _ _ _ h => h) (yields_build2 (by kernel_rfl) 47 (.tmp 6) (.tmp 10) rfl rfl rfl (Q4.bd_n _ _)) hS ?_
  simp only [put_list, List.set_cons_succ, List.set_cons_zero]
  refine wpAnyH_takeL (i := 9) (v := ?_) rfl (by kernel_rfl) (by kernel_rfl) (by kernel_rfl) (fun _ _ _ h => h) (Or.inl ⟨by kernel_rfl, ?_⟩) hS ?_
  rotate_left
  · intro V hV
    go_simp
    (try with_reducible rfl)
  simp only [put_list, List.set_cons_succ, List.set_cons_zero]
  refine wpAnyH_takeL (i := 10) (v := .slice (some ⟨N, 12, none⟩) 4 6) rfl (by kernel_rfl) (by kernel_rfl) (by kernel_rfl) (fun _ _ _ h => h) (Or.inl ⟨by kernel_rfl, ?_⟩) hS ?_
  · intro V hV
    go_simp
    (try with_reducible rfl)
  simp only [put_list, List.set_cons_succ, List.set_cons_zero]
  refine wpAnyH_takeL (i := 11) (v := .pointer (some ⟨N, 12, none⟩)) rfl (by kernel_rfl) (by kernel_rfl) (by kernel_rfl) (fun _ _ _ h => h) (Or.inl ⟨by kernel_rfl, ?_⟩) hS ?_
  · intro V hV
    have har := arrayAt_part N 12 V
    go_simp
    (try with_reducible rfl)
  simp only [put_list, List.set_cons_succ, List.set_cons_zero]
  refine wpAnyH_takeL (i := 12) (v := .agg (P4.nv (lo4 c))) rfl (by kernel_rfl) (by kernel_rfl) (by kernel_rfl) (fun _ _ _ h => h) (yields_loadC (by kernel_rfl) 32 _ rfl N 12 rfl (P4.nv (lo4 c)) _ (fun V hV => pn_2 (hV.box H0.out (by omega))) P4.underE rfl (P4.infoE (P4.nv_size _))) hS ?_
  simp only [put_list, List.set_cons_succ, List.set_cons_zero]
  refine wpAnyH_takeL (i := 13) (v := ?_) rfl (by kernel_rfl) (by kernel_rfl) (by kernel_rfl) (fun _ _ _ h => h) (Or.inl ⟨by kernel_rfl, ?_⟩) hS ?_
  rotate_left
  · intro V hV
    go_simp
    (try with_reducible rfl)
  simp only [put_list, List.set_cons_succ, List.set_cons_zero]
  refine wpAnyH_takeL (i := 14) (v := .slice (some ⟨N, 18, none⟩) 4 6) rfl (by kernel_rfl) (by kernel_rfl) (by kernel_rfl) (fun _ _ _ h => h) (Or.inl ⟨by kernel_rfl, ?_⟩) hS ?_
  · intro V hV
    go_simp
    (try with_reducible rfl)
  simp only [put_list, List.set_cons_succ, List.set_cons_zero]
  refine wpAnyH_takeL (i := 15) (v := .pointer (some ⟨N, 18, none⟩)) rfl (by kernel_rfl) (by kernel_rfl) (by kernel_rfl) (fun _ _ _ h => h) (Or.inl ⟨by kernel_rfl, ?_⟩) hS ?_
  · intro V hV
    have har := arrayAt_part N 18 V
    go_simp
    (try with_reducible rfl)
  simp only [put_list, List.set_cons_succ, List.set_cons_zero]
  refine wpAnyH_takeL (i := 16) (v := .agg (P4.nv (lo4 d))) rfl (by kernel_rfl) (by kernel_rfl) (by kernel_rfl) (fun _ _ _ h => h) (yields_loadC (by kernel_rfl) 32 _ rfl N 18 rfl (P4.nv (lo4 d)) _ (fun V hV => pn_3 (hV.box H0.out (by omega))) P4.underE rfl (P4.infoE (P4.nv_size _))) hS ?_
  simp only [put_list, List.set_cons_succ, List.set_cons_zero]
  refine wpAnyH_takeL (i := 17) (v := .agg (Q4.nv (lo4 c, lo4 d))) rfl (by kernel_rfl) (by kernel_rfl) (by kernel_rfl) (fun _ _ _ h => h) (yields_build2 (by kernel_rfl) 47 (.tmp 15) (.tmp 19) rfl rfl rfl (Q4.bd_n _ _)) hS ?_
  simp only [put_list, List.set_cons_succ, List.set_cons_zero]
  refine wpAnyH_takeL (i := 18) (v := ?_) rfl (by kernel_rfl) (by kernel_rfl) (by kernel_rfl) (fun _ _ _ h => h) (Or.inl ⟨by kernel_rfl, ?_⟩) hS ?_
  rotate_left
  · intro V hV
    go_simp
    (try with_reducible rfl)
  simp only [put_list, List.set_cons_succ, List.set_cons_zero]
  refine wpAnyH_takeL (i := 19) (v := .bool i) rfl (by kernel_rfl) (by kernel_rfl) (by kernel_rfl) (fun _ _ _ h => h) (Or.inl ⟨by kernel_rfl, ?_⟩) hS ?_
  · intro V hV
    have hf := pn_i (hV.box H0.out (by omega))
    go_simp
    (try with_reducible rfl)
  simp only [put_list, List.set_cons_succ, List.set_cons_zero]
  refine wpAnyH_takeL (i := 20) (v := .agg (Q4.pt ((lo4 a, lo4 b)) ((lo4 c, lo4 d)) i)) rfl (by kernel_rfl) (by kernel_rfl) (by kernel_rfl) (fun _ _ _ h => h) (yields_buildN9 (by kernel_rfl) 49 _ #[(0, .agg (Q4.nv ((lo4 a, lo4 b)))), (1, .agg (Q4.nv ((lo4 c, lo4 d)))), (2, .bool i)] rfl (by simp only [List.map_toArray, List.map_cons, List.map_nil]; rfl) (fun w => Q4.bd_a3 _ _ _ w)) hS ?_
  simp only [put_list, List.set_cons_succ, List.set_cons_zero]
  refine wpAnyH_ready (rs := [21]) (by kernel_rfl) (by simp) (AllReadyH.cons rfl (fun K hK => ?_) AllReadyH.nil)
  refine ite_wp (by kernel_rfl) ?_
  refine wp_store_midN 49 (.tmp 2) (.tmp 23) rfl rfl B1 0 (Q4.pt ((lo4 a, lo4 b)) ((lo4 c, lo4 d)) i) rfl rfl (hS.there (Q4.pt_size _ _ _)) (Q4.infoA (Q4.pt_size _ _ _)) (Q4.pt_one _ _ _) ?_
  have g1 := hS.put (C := Q4.pt ((lo4 a, lo4 b)) ((lo4 c, lo4 d)) i) (Q4.pt_size _ _ _)
  have hS9 := hS.store (C := Q4.pt ((lo4 a, lo4 b)) ((lo4 c, lo4 d)) i) (Q4.pt_size _ _ _)
  clear hS
  generalize World.setCells _ B1 0 (Q4.pt ((lo4 a, lo4 b)) ((lo4 c, lo4 d)) i).toList = x1 at g1 hS9 ⊢
  refine hK.out _ _ hS9 (fun hS => ?_)
  clear hK K hS9
  refine wpAnyH_done (by kernel_rfl) ?_ _
  (try simp only [put_none])
  refine HK1.out _ _ ?_
  refine wp_ret ?_
  exact bodyPost_ret_by (results_cell rfl rfl (loadC _ B1 0 49 (Q4.pt ((lo4 a, lo4 b)) ((lo4 c, lo4 d)) i) _ (rangeOf g1) Q4.underA rfl (Q4.infoA (Q4.pt_size _ _ _)))) rfl ⟨rfl, HBW.out.trans (hS.below.mono (by omega))⟩

end Go.Proofs.YtppijhcfodccfaaGreat

namespace Go.Proofs.YtppijhcfodccfaaGreat
open Go.RowKit Go.Shelf

theorem Tryz.bytes5 : (Tryz.prog.info? 5).map (fun i => (i.zero, i.size, i.bytes)) = some (some (.int .u8 0), 1, 1) := by kernel_rfl

theorem Tryz.undB : Tryz.prog.underlying 93 = some (.slice 5) := by kernel_rfl

theorem add_nil (g j : Nat) : (⟨g, 0, none⟩ : Addr).add j = ⟨g, j, none⟩ := by unfold Addr.add; split <;> simp_all

/-- Bytes that can be read: a slice. -/
structure BS (w : World) (ao : Option Addr) (n cap : Nat) (bs : Nat → Nat) : Prop where
  lt : ∀ j, bs j < 256
  le : n ≤ cap
  room : cap ≤ maxLen
  cell : ∀ j, j < n → ∃ ad, ao = some ad ∧ w.cell? (ad.add j) = some (.int .u8 (bs j))
  nil : ao = none → cap = 0

theorem BS.moved {w w' : World} {ao : Option Addr} {n cap : Nat} {bs : Nat → Nat} (h : BS w ao n cap bs) (hb : Below w.heap.size w w') : BS w' ao n cap bs :=
  ⟨h.lt, h.le, h.room, fun j hj => by
    obtain ⟨ad, e, hc⟩ := h.cell j hj
    exact ⟨ad, e, (hb.cell (p := ad.add j) (World.block_lt_of_cell? w _ hc)).trans hc⟩, h.nil⟩

/-- The number of the last k bytes of n. -/
def bv (bs : Nat → Nat) (n : Nat) : Nat → Nat
  | 0 => 0
  | k + 1 => bv bs n k + bs (n - 1 - k) * 256 ^ k

theorem bv_lt {bs : Nat → Nat} (hs : ∀ j, bs j < 256) (n : Nat) : ∀ k, bv bs n k < 256 ^ k
  | 0 => by simp [bv]
  | k + 1 => by
    have ih := bv_lt hs n k
    have hd := hs (n - 1 - k)
    rw [bv, Nat.pow_succ]
    have := Nat.mul_le_mul_right (256 ^ k) (show bs (n - 1 - k) ≤ 255 by omega)
    omega

theorem limb_add_byte (V d k j : Nat) (hV : V < 256 ^ k) (hd : d < 256) : limb (V + d * 256 ^ k) j = if j = k / 8 then limb V j + d * 2 ^ (8 * (k % 8)) else limb V j := by
  have e : (256 : Nat) ^ k = 2 ^ (8 * (k % 8)) * 18446744073709551616 ^ (k / 8) := by
    rw [show (18446744073709551616 : Nat) = 2 ^ 64 by decide, ← Nat.pow_mul, ← Nat.pow_add, show (256 : Nat) = 2 ^ 8 by decide, ← Nat.pow_mul]
    congr 1
    omega
  have hlow : V / 18446744073709551616 ^ (k / 8) < 2 ^ (8 * (k % 8)) := by
    rw [Nat.div_lt_iff_lt_mul (Nat.pow_pos (by decide)), ← e]
    exact hV
  have hp : 2 ^ (8 * (k % 8)) ≤ 2 ^ 56 := Nat.pow_le_pow_right (by decide) (by omega)
  unfold limb
  by_cases h : j = k / 8
  · subst h
    rw [if_pos rfl, e, ← Nat.mul_assoc, Nat.add_mul_div_right _ _ (Nat.pow_pos (by decide))]
    have h60 : (2 : Nat) ^ 56 = 72057594037927936 := by decide
    have hm : d * 2 ^ (8 * (k % 8)) ≤ 255 * 2 ^ (8 * (k % 8)) := Nat.mul_le_mul_right _ (by omega)
    generalize d * 2 ^ (8 * (k % 8)) = D at *
    generalize 2 ^ (8 * (k % 8)) = P at *
    generalize V / 18446744073709551616 ^ (k / 8) = Q at *
    omega
  · rw [if_neg h]
    rcases Nat.lt_or_gt_of_ne h with h1 | h1
    · have hk : k / 8 = (k / 8 - j - 1) + 1 + j := by omega
      have e2 : d * 256 ^ k = d * 2 ^ (8 * (k % 8)) * 18446744073709551616 ^ (k / 8 - j - 1) * 18446744073709551616 * 18446744073709551616 ^ j := by
        rw [e]
        conv => lhs; rw [hk, Nat.pow_add, Nat.pow_succ]
        simp only [Nat.mul_assoc]
      rw [e2, Nat.add_mul_div_right _ _ (Nat.pow_pos (by decide)), Nat.add_mul_mod_self_right]
    · have hz : ∀ N, N < 256 ^ (k + 1) → N / 18446744073709551616 ^ j = 0 := fun N hN => by
        apply Nat.div_eq_of_lt
        refine Nat.lt_of_lt_of_le hN ?_
        rw [show (18446744073709551616 : Nat) = 256 ^ 8 by decide, ← Nat.pow_mul]
        exact Nat.pow_le_pow_right (by decide) (by omega)
      have hN : V + d * 256 ^ k < 256 ^ (k + 1) := by
        rw [Nat.pow_succ]
        have := Nat.mul_le_mul_right (256 ^ k) (show d ≤ 255 by omega)
        omega
      rw [hz _ hN, hz V (Nat.lt_trans hV (Nat.pow_lt_pow_right (by decide) (by omega)))]

theorem or_byte (a d n : Nat) (ha : a < 2 ^ n) (hd : d < 256) (hn : n ≤ 56) : bits .or .u64 (a : Int) ((d * 2 ^ n : Nat) : Int) = ((a + d * 2 ^ n : Nat) : Int) := by
  have hp : 2 ^ n ≤ 2 ^ 56 := Nat.pow_le_pow_right (by decide) hn
  have h60 : (2 : Nat) ^ 56 = 72057594037927936 := by decide
  have hm := Nat.mul_le_mul_right (2 ^ n) (show d ≤ 255 by omega)
  have h := bits_or_u64_nat a (d * 2 ^ n) (by omega) (by omega)
  have e : a ||| d * 2 ^ n = a + d * 2 ^ n := by
    rw [Nat.mul_comm, Nat.or_comm, ← Nat.two_pow_add_eq_or_of_lt ha d, Nat.add_comm]
  rw [h, e]

theorem limb_low_byte {V k : Nat} (hV : V < 256 ^ k) : limb V (k / 8) < 2 ^ (8 * (k % 8)) := by
  unfold limb
  refine Nat.lt_of_le_of_lt (Nat.mod_le _ _) ?_
  rw [Nat.div_lt_iff_lt_mul (Nat.pow_pos (by decide)), show (18446744073709551616 : Nat) = 2 ^ 64 by decide, ← Nat.pow_mul, ← Nat.pow_add]
  refine Nat.lt_of_lt_of_le hV ?_
  rw [show (256 : Nat) = 2 ^ 8 by decide, ← Nat.pow_mul]
  exact Nat.pow_le_pow_right (by decide) (by omega)

/-- The byte number i of a number, the lowest first. -/
def byt (X i : Nat) : Nat := limb X (i / 8) / 2 ^ (8 * (i % 8)) % 256

theorem byt_lt (X i : Nat) : byt X i < 256 := Nat.mod_lt _ (by decide)

/-- So many bytes in a row. -/
def cb (n : Nat) (f : Nat → Nat) : Array Value := ((List.range n).map (fun j => Value.int .u8 (f j))).toArray

theorem cb_size (n : Nat) (f : Nat → Nat) : (cb n f).size = n := by simp [cb]

theorem cb_get {n : Nat} (f : Nat → Nat) {j : Nat} (h : j < n) : (cb n f)[j]? = some (.int .u8 (f j)) := by
  unfold cb
  rw [List.getElem?_toArray]
  simp [h]

theorem cb_congr {n : Nat} {f g : Nat → Nat} (h : ∀ j, j < n → f j = g j) : cb n f = cb n g := by
  unfold cb
  congr 1
  exact List.map_congr_left fun j hj => by rw [h j (List.mem_range.1 hj)]

theorem cb_set {n : Nat} (f : Nat → Nat) {j : Nat} (v : Nat) : (cb n f).setIfInBounds j (.int .u8 v) = cb n (fun i => if i = j then v else f i) := by
  apply Array.ext_getElem?
  intro i
  rw [Array.getElem?_setIfInBounds]
  by_cases hi : i < n
  · by_cases h : j = i
    · subst h; rw [cb_get (fun i => if i = j then v else f i) hi]; simp [cb_size, hi]
    · rw [if_neg h, cb_get _ hi, cb_get _ hi, if_neg (fun e => h e.symm)]
  · have e : ∀ f, (cb n f)[i]? = none := fun f => by rw [Array.getElem?_eq_none]; rw [cb_size]; omega
    by_cases h : j = i
    · subst h; simp [cb_size, hi]
    · rw [if_neg h, e, e]

theorem make_bytes (W : World) (n : Nat) (hn : n ≤ 48) : (Instr.makeSlice 93 (.int .i64 (n : Int)) (.int .i64 (n : Int))).run Tryz.prog W = .ok (.slice (some ⟨W.heap.size, 0, none⟩) n n) (W.alloc (.cells (cb n (fun _ => 0)) 5)) := by
  obtain ⟨i0, hi, hz, hs, hb⟩ := info_parts Tryz.bytes5
  have := run_makeSlice (P := Tryz.prog) (w := W) 93 5 i0 (.int .u8 0) Tryz.undB hi hz .i64 .i64 n n (by omega) (by omega) (by rw [hs]; omega) (by rw [hb]; omega) (by omega)
  have e : madeCells (Value.int IntKind.u8 0).cells (Int.toNat n * 1) = cb n (fun _ => 0) := by
    apply Array.ext_getElem?
    intro i
    rw [Nat.mul_one, Int.toNat_natCast]
    by_cases h : i < n
    · rw [cb_get _ h]
      simp [madeCells, h, Value.cells, Nat.mod_one]
    · rw [Array.getElem?_eq_none (by rw [size_madeCells]; omega), Array.getElem?_eq_none (by rw [cb_size]; omega)]
  rw [this, hs, e]
  simp

end Go.Proofs.YtppijhcfodccfaaGreat
