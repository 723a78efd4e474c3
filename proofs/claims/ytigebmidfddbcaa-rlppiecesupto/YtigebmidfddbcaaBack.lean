/-
  Kids from the last to the first: the library's iterator.
-/
import Derived.Test.YtigebmidfddbcaaWHead
import Derived.RangeFuncNested
import Derived.RangeFuncBound
import Derived.RangeFuncCalls
import Derived.RangeFuncLeaves
import Derived.RangeFuncBox
import Derived.Shelf.Abstract
import Derived.Shelf.RegionOpen
import Derived.OwnWalkIn
import Derived.TacticsInMore
import Derived.LoopNIn
import Derived.LoopIn
namespace Go.Proofs.Ytigebmidfddbcaa
open Go.RowKit Go.Shelf

attribute [local go_sem] Oper.semAt_some

/-- The words of items in a row. -/
structure KW where
  l : Nat → Int
  a : Nat → Option Addr
  n : Nat → Nat
  c : Nat → Nat
  a' : Nat → Option Addr
  n' : Nat → Nat
  c' : Nat → Nat

def KW.val (K : KW) (j : Nat) : Value := .agg #[.int .i64 (K.l j), .slice (K.a j) (K.n j) (K.c j), .slice (K.a' j) (K.n' j) (K.c' j)]

/-- The row as the iterator reads it. -/
def RowB (Bn g n c : Nat) (K : KW) (W : World) : Prop :=
  W.cell? ⟨Bn, 0, none⟩ = some (.slice (some ⟨g, 0, none⟩) n c) ∧ ∀ j, j < n → W.cell? ⟨g, j * 3, none⟩ = some (.int .i64 (K.l j)) ∧ W.cell? ⟨g, j * 3 + 1, none⟩ = some (.slice (K.a j) (K.n j) (K.c j)) ∧ W.cell? ⟨g, j * 3 + 2, none⟩ = some (.slice (K.a' j) (K.n' j) (K.c' j))

def KpB (Bn g n c : Nat) (K : KW) (W W' : World) : Prop := RowB Bn g n c K W → RowB Bn g n c K W'

theorem rev_take {n k : Nat} (h : k < n) : ((List.range n).reverse).take (k + 1) = ((List.range n).reverse).take k ++ [n - 1 - k] := by
  have hl : k < ((List.range n).reverse).length := by simpa using h
  rw [List.take_succ_eq_append_getElem hl]
  simp

set_option maxHeartbeats 2000000 in
set_option maxRecDepth 100000 in
theorem back1_some (m : Nat) (hm : 1 ≤ m) (l Bn g n c : Nat) (K : KW) (hn : n ≤ 9223372036854775807) (J Jx : List Nat → World → Prop)
    (hY : ∀ (pre : List Nat) (x : Nat) (W : World), J pre W → pre.length < n → YieldAt Fence.wide (m - 1) Try.prog l #[.int .i64 (x : Int), K.val x] W fun e W' =>
      (e = .returned (.bool true) ∧ J (pre ++ [x]) W' ∧ KpB Bn g n c K W W') ∨ (e = .returned (.bool false) ∧ Jx (pre ++ [x]) W'))
    (W : World) (hr : RowB Bn g n c K W) (h0 : J [] W) :
    CallsIn Fence.wide m Try.prog 80 #[.func (.yield l) #[] #[], .pointer (some ⟨Bn, 0, none⟩)] W fun e W' => (∃ v, e = .returned v) ∧
      ((∃ ys, ys = (List.range n).reverse ∧ J ys W') ∨ (∃ pre, pre <+: (List.range n).reverse ∧ Jx pre W')) := by
  have HR := hideP hr
  have HY := hideP hY
  have hBn := hr.1
  have e0 : IntKind.i64.wrap ((n : Int) - 1) = (n : Int) - 1 := by rw [IntKind.wrap_i64]; omega
  have HNN := hideP hn
  clear hY hr hn
  refine callsIn_of_wp Try.func80 rfl trivial ?_ rfl
  simp only [Try.ntmps80, List.size_toArray, List.length_cons, List.length_nil, Nat.reduceAdd, Nat.reduceSub, Array.replicate_succ, Array.replicate_zero, List.push_toArray, List.append_toArray, List.nil_append, List.cons_append]
  gi_wp2
  clear hBn
  gi_loopw [3] (fun i wr => ∃ k : Nat, k ≤ n ∧ i = .int .i64 ((n : Int) - 1 - (k : Int)) ∧ J (((List.range n).reverse).take k) wr ∧ Hid (RowB Bn g n c K wr)) (fun i _ => (intOf i + 1).toNat)
  case atStart => exact ⟨0, Nat.zero_le _, by simp, by simpa using h0, HR⟩
  case round =>
    obtain ⟨k, hk, rfl, hJ, hR⟩ := hrel
    by_cases hlt : k < n
    · have hBn := hR.out.1
      obtain ⟨c0, c1, c2⟩ := hR.out.2 (n - 1 - k) (by omega)
      have hj : (n : Int) - 1 - (k : Int) = ((n - 1 - k : Nat) : Int) := by omega
      have HSN := hideP (rev_take hlt)
      have hlen : (((List.range n).reverse).take k).length < n := by simp; omega
      obtain ⟨fn, tmps, assign, body, hy, hRd⟩ := HY.out (((List.range n).reverse).take k) (n - 1 - k) wr hJ hlen
      unfold KW.val at hy
      have g1 : ((n - 1 - k : Nat) : Int) ≥ 0 := by omega
      have g1' : (0 : Int) ≤ ((n - 1 - k : Nat) : Int) := by omega
      have g2 : ((n - 1 - k : Nat) : Int) < (n : Int) := by omega
      have e1 : IntKind.i64.wrap (((n - 1 - k : Nat) : Int) - 1) = ((n - 1 - k : Nat) : Int) - 1 := by have := HNN.out; rw [IntKind.wrap_i64]; omega
      have HK := hideP hlt
      have HE : Hid (((n - 1 - k : Nat) : Int) - 1 = (n : Int) - 1 - ((k + 1 : Nat) : Int)) := (by omega : ((n - 1 - k : Nat) : Int) - 1 = (n : Int) - 1 - ((k + 1 : Nat) : Int))
      rw [hj]
      clear hJ hlen hk hlt hj
      generalize n - 1 - k = j at *
      gi_wp2
      refine hRd.mono ?_
      rintro e W3 (⟨rfl, hJ3, hk3⟩ | ⟨rfl, hJx3⟩)
      · have HR3 := hideP (hk3 hR.out)
        have HJ3 := hideP hJ3
        clear hJ3 hk3 hRd c0 c1 c2 hBn
        gi_wp2
        exact ⟨⟨k + 1, HK.out, by rw [HE.out], by rw [HSN.out]; exact HJ3.out, HR3⟩, by simp [intOf] <;> omega⟩
      · gi_wp2
        refine bodyPost_ret (results_none rfl _ _ _) rfl ?_
        exact ⟨⟨_, rfl⟩, .inr ⟨_, by rw [← HSN.out]; exact List.take_prefix _ _, hJx3⟩⟩
    · have hkl : k = n := by omega
      subst hkl
      have HJ := hideP hJ
      have hj : (k : Int) - 1 - (k : Int) = -1 := by omega
      rw [hj]
      clear hJ
      gi_wp2
      go_end0
      exact ⟨⟨_, rfl⟩, .inl ⟨_, by rw [List.take_of_length_le (by simp)], HJ.out⟩⟩

set_option maxHeartbeats 2000000 in
set_option maxRecDepth 100000 in
theorem back1_nil (m : Nat) (l Bn c : Nat) (ao : Option Addr) (W : World) (hBn : W.cell? ⟨Bn, 0, none⟩ = some (.slice ao 0 c)) :
    CallsIn Fence.wide m Try.prog 80 #[.func (.yield l) #[] #[], .pointer (some ⟨Bn, 0, none⟩)] W fun e W' => (∃ v, e = .returned v) ∧ W' = W := by
  refine callsIn_of_wp Try.func80 rfl trivial ?_ rfl
  simp only [Try.ntmps80, List.size_toArray, List.length_cons, List.length_nil, Nat.reduceAdd, Nat.reduceSub, Array.replicate_succ, Array.replicate_zero, List.push_toArray, List.append_toArray, List.nil_append, List.cons_append]
  gi_wp2
  gi_loopw [3] (fun i wr => i = .int .i64 (-1) ∧ wr = W) (fun _ _ => 0)
  case atStart => exact ⟨rfl, rfl⟩
  case round =>
    obtain ⟨rfl, rfl⟩ := hrel
    gi_wp2
    go_end0
    exact ⟨⟨_, rfl⟩, rfl⟩

set_option maxHeartbeats 2000000 in
set_option maxRecDepth 100000 in
theorem back_in (m : Nat) (ao : Option Addr) (n c : Nat) (w : World) :
    CallsIn Fence.wide m Try.prog 70 #[.slice ao n c] w fun e w' => e = .returned (.func (.func 80) #[] #[.pointer (some ⟨w.heap.size, 0, none⟩)]) ∧ w' = w.alloc (.cells #[.slice ao n c] 24) := by
  refine callsIn_of_wp Try.func70 rfl trivial ?_ rfl
  simp only [Try.ntmps70, List.size_toArray, List.length_cons, List.length_nil, Nat.reduceAdd, Nat.reduceSub, Array.replicate_succ, Array.replicate_zero, List.push_toArray, List.append_toArray, List.nil_append, List.cons_append]
  gi_wp2
  go_ret
  exact ⟨rfl, rfl⟩

theorem KpB.trans {Bn g n c : Nat} {K : KW} {A B C : World} (h : KpB Bn g n c K A B) (k : KpB Bn g n c K B C) : KpB Bn g n c K A C := fun hr => k (h hr)

theorem KpB.of_same {Bn g n c : Nat} {K : KW} {W W' : World} (h1 : W'.heap[Bn]? = W.heap[Bn]?) (h2 : W'.heap[g]? = W.heap[g]?) : KpB Bn g n c K W W' := by
  rintro ⟨hb, hr⟩
  refine ⟨(World.cell?_of_block (w := W) (a := ⟨Bn, 0, none⟩) h1).trans hb, fun j hj => ?_⟩
  obtain ⟨c0, c1, c2⟩ := hr j hj
  exact ⟨(World.cell?_of_block (w := W) (a := ⟨g, j * 3, none⟩) h2).trans c0, (World.cell?_of_block (w := W) (a := ⟨g, j * 3 + 1, none⟩) h2).trans c1, (World.cell?_of_block (w := W) (a := ⟨g, j * 3 + 2, none⟩) h2).trans c2⟩

/-- The iterator over a row of kids, for whatever body that keeps the row. -/
theorem back_stops (m : Nat) (hm : 1 ≤ m) (Bn g n c : Nat) (K : KW) (hn : n ≤ 9223372036854775807) (w : World) (hr : RowB Bn g n c K w) (hg : g < w.heap.size) :
    SeqStopsK Fence.wide m Try.prog 80 #[.pointer (some ⟨Bn, 0, none⟩)] (fun x : Nat => #[.int .i64 (x : Int), K.val x]) (KpB Bn g n c K) (fun ys => ys = (List.range n).reverse) (fun pre => pre <+: (List.range n).reverse) n w := by
  intro l J Jx W hW _ _ hY h0
  have hB : Bn < w.heap.size := World.block_lt_of_cell? w _ hr.1
  exact back1_some m hm l Bn g n c K hn J Jx hY W (KpB.of_same (hW.block _ hB) (hW.block _ hg) hr) h0

/-- The iterator over nothing. -/
theorem back_stops_nil (m : Nat) (Bn c : Nat) (ao : Option Addr) (Kp : World → World → Prop) (K : KW) (w : World) (hBn : w.cell? ⟨Bn, 0, none⟩ = some (.slice ao 0 c)) :
    SeqStopsK Fence.wide m Try.prog 80 #[.pointer (some ⟨Bn, 0, none⟩)] (fun x : Nat => #[.int .i64 (x : Int), K.val x]) Kp (fun ys => ys = (List.range 0).reverse) (fun pre => pre <+: (List.range 0).reverse) 0 w := by
  intro l J Jx W hW _ _ hY h0
  have hBn' := (hW.cell (p := ⟨Bn, 0, none⟩) (World.block_lt_of_cell? w _ hBn)).trans hBn
  refine (back1_nil m l Bn c ao W hBn').mono ?_
  rintro e W' ⟨hv, rfl⟩
  exact ⟨hv, .inl ⟨[], rfl, h0⟩⟩

end Go.Proofs.Ytigebmidfddbcaa
