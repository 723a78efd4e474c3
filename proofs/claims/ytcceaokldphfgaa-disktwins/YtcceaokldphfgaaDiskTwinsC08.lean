/- YtcceaokldphfgaaDiskTwinsC08 -/
import Derived.RangeFuncNested
import Derived.RangeFuncBound
import Derived.RangeFuncCalls
import Derived.RangeFuncLeaves
import Derived.RangeFuncBox
import Derived.Shelf.Abstract
import Derived.Shelf.RegionOpen
import Derived.WalkKit
import Derived.OwnWalkIn
import Derived.TacticsInMore
import Derived.LoopNIn
import Derived.LoopIn
import Derived.Test.YtcceaokldphfgaaDiskTwinsC07
namespace Go.Proofs.Ytcceaokldphfgaa
open Go.RowKit Go.Shelf

attribute [local go_sem] Oper.semAt_some

/-- A file among those of a disk. -/
abbrev Of (fs : List FRep) := { f : FRep // f ∈ fs }

/-- The files' row as the iterator reads it. -/
def RowI (W : World) (v : Value) (fs : List FRep) : Prop :=
  (v = .slice none 0 0 ∧ fs = []) ∨ ∃ g c, v = .slice (some ⟨g, 0, none⟩) fs.length c ∧ ∀ j f, fs[j]? = some f → W.cell? ⟨g, j, none⟩ = some (ptrV f)

/-- What a round keeps for the iterator: the files' row. -/
def KpR (v : Value) (fs : List FRep) (W W' : World) : Prop := RowI W v fs → RowI W' v fs

theorem KpR.of_same {v : Value} {fs : List FRep} {W W' : World} (h : ∀ g, v.ownBlock = some g → W'.heap[g]? = W.heap[g]?) : KpR v fs W W' := by
  rintro (⟨rfl, rfl⟩ | ⟨g, c, rfl, hr⟩)
  · exact .inl ⟨rfl, rfl⟩
  · exact .inr ⟨g, c, rfl, fun j f hf => (World.cell?_of_block (w := W) (a := ⟨g, j, none⟩) (h g rfl)).trans (hr j f hf)⟩

set_option maxHeartbeats 1000000 in
set_option maxRecDepth 100000 in
theorem all_in (n : Nat) (p0 : Option Addr) (w : World) :
    CallsIn Fence.wide n Try.prog 51 #[.pointer p0] w fun e w' => e = .returned (.func (.func 73) #[] #[.pointer (some ⟨w.heap.size, 0, none⟩)]) ∧ w' = w.alloc (.cells #[.pointer p0] 29) := by
  refine callsIn_of_wp Try.func51 rfl trivial ?_ rfl
  simp only [Try.ntmps51, List.size_toArray, List.length_cons, List.length_nil, Nat.reduceAdd, Nat.reduceSub, Array.replicate_succ, Array.replicate_zero, List.push_toArray, List.append_toArray, List.nil_append, List.cons_append]
  gi_wp2
  go_ret
  exact ⟨rfl, rfl⟩

set_option maxHeartbeats 1000000 in
set_option maxRecDepth 100000 in
theorem all1_some (n : Nat) (hn : 1 ≤ n) (l Bn D g c : Nat) (fs : List FRep) (J Jx : List (Of fs) → World → Prop) (hlen : fs.length ≤ 4096)
    (hY : ∀ pre x W, J pre W → pre.length < fs.length → YieldAt Fence.wide (n - 1) Try.prog l #[ptrV x.1] W fun e W' =>
      (e = .returned (.bool true) ∧ J (pre ++ [x]) W' ∧ KpR (.slice (some ⟨g, 0, none⟩) fs.length c) fs W W') ∨ (e = .returned (.bool false) ∧ Jx (pre ++ [x]) W'))
    (W : World) (hBn : W.cell? ⟨Bn, 0, none⟩ = some (.pointer (some ⟨D, 0, none⟩))) (hD : W.cell? ⟨D, 8, none⟩ = some (.slice (some ⟨g, 0, none⟩) fs.length c))
    (hr : ∀ j f, fs[j]? = some f → W.cell? ⟨g, j, none⟩ = some (ptrV f)) (h0 : J [] W) :
    CallsIn Fence.wide n Try.prog 73 #[.func (.yield l) #[] #[], .pointer (some ⟨Bn, 0, none⟩)] W fun e W' => (∃ v, e = .returned v) ∧
      ((∃ ys, ys = fs.attach ∧ J ys W') ∨ (∃ pre, pre <+: fs.attach ∧ Jx pre W')) := by
  have HR : Hid (∀ j f, fs[j]? = some f → W.cell? ⟨g, j, none⟩ = some (ptrV f)) := hr
  clear hr
  have HY : Hid (∀ pre x W, J pre W → pre.length < fs.length → YieldAt Fence.wide (n - 1) Try.prog l #[ptrV x.1] W fun e W' =>
      (e = .returned (.bool true) ∧ J (pre ++ [x]) W' ∧ KpR (.slice (some ⟨g, 0, none⟩) fs.length c) fs W W') ∨ (e = .returned (.bool false) ∧ Jx (pre ++ [x]) W')) := hY
  clear hY
  refine callsIn_of_wp Try.func73 rfl trivial ?_ rfl
  simp only [Try.ntmps73, List.size_toArray, List.length_cons, List.length_nil, Nat.reduceAdd, Nat.reduceSub, Array.replicate_succ, Array.replicate_zero, List.push_toArray, List.append_toArray, List.nil_append, List.cons_append]
  gi_wp2
  gi_loopw [4, 12] (fun _ i wr => ∃ k : Nat, k ≤ fs.length ∧ i = .int .i64 k ∧ J (fs.attach.take k) wr ∧ Hid (∀ j f, fs[j]? = some f → wr.cell? ⟨g, j, none⟩ = some (ptrV f))) (fun _ i _ => fs.length - (intOf i).toNat)
  case atStart => exact ⟨0, Nat.zero_le _, rfl, by simpa using h0, HR⟩
  case round =>
    obtain ⟨k, hk, rfl, hJ, hR⟩ := hrel
    by_cases hlt : k < fs.length
    · have hka : k < fs.attach.length := by simpa using hlt
      obtain ⟨x, hx⟩ : ∃ x, fs.attach[k] = x := ⟨_, rfl⟩
      have hxk : fs[k]? = some x.1 := by rw [← hx]; simp [hlt]
      have hc := hR.out k x.1 hxk
      have hsn : fs.attach.take (k + 1) = fs.attach.take k ++ [x] := by rw [List.take_succ_eq_append_getElem hka, hx]
      have HSN : Hid (fs.attach.take (k + 1) = fs.attach.take k ++ [x]) := hsn
      obtain ⟨fn, tmps, assign, body, hy, hRd⟩ := HY.out (fs.attach.take k) x wr hJ (by simp; omega)
      have HRd := hRd
      simp only [ptrV] at hc hy
      clear hsn hx hxk hJ
      gi_wp2
      refine hRd.mono ?_
      rintro e W3 (⟨rfl, hJ3, hk3⟩ | ⟨rfl, hJx3⟩)
      · have HR3 : Hid (∀ j f, fs[j]? = some f → W3.cell? ⟨g, j, none⟩ = some (ptrV f)) := by
          rcases hk3 (.inr ⟨g, c, rfl, hR.out⟩) with ⟨e, _⟩ | ⟨g', c', e, hr'⟩
          · cases e
          · cases e; exact hr'
        have HJ3 : Hid (J (fs.attach.take k ++ [x]) W3) := hJ3
        clear hJ3 hk3 HRd hRd
        gi_wp2
        go_roundw
        case rel => exact ⟨k + 1, by omega, by go_num, by rw [HSN.out]; exact HJ3.out, HR3⟩
        case measure => simp [intOf]; omega
      · gi_wp2
        refine bodyPost_ret (results_none rfl _ _ _) rfl ?_
        exact ⟨⟨_, rfl⟩, .inr ⟨_, by rw [← HSN.out]; exact List.take_prefix _ _, hJx3⟩⟩
    · have hkl : k = fs.length := by omega
      subst hkl
      have HJ : Hid (J (fs.attach.take fs.length) wr) := hJ
      clear hJ
      gi_wp2
      go_end0
      exact ⟨⟨_, rfl⟩, .inl ⟨_, by rw [List.take_of_length_le (by simp)], HJ.out⟩⟩

set_option maxHeartbeats 1000000 in
set_option maxRecDepth 100000 in
theorem all1_nil (n : Nat) (l Bn D : Nat) (W : World) (hBn : W.cell? ⟨Bn, 0, none⟩ = some (.pointer (some ⟨D, 0, none⟩))) (hD : W.cell? ⟨D, 8, none⟩ = some (.slice none 0 0)) :
    CallsIn Fence.wide n Try.prog 73 #[.func (.yield l) #[] #[], .pointer (some ⟨Bn, 0, none⟩)] W fun e W' => (∃ v, e = .returned v) ∧ W' = W := by
  refine callsIn_of_wp Try.func73 rfl trivial ?_ rfl
  simp only [Try.ntmps73, List.size_toArray, List.length_cons, List.length_nil, Nat.reduceAdd, Nat.reduceSub, Array.replicate_succ, Array.replicate_zero, List.push_toArray, List.append_toArray, List.nil_append, List.cons_append]
  gi_wp2
  gi_loopw [4, 12] (fun _ i wr => i = .int .i64 0 ∧ wr = W) (fun _ _ _ => 0)
  case atStart => exact ⟨rfl, rfl⟩
  case round =>
    obtain ⟨rfl, rfl⟩ := hrel
    gi_wp2
    go_end0
    exact ⟨⟨_, rfl⟩, rfl⟩

/-- The disk's iterator, for whatever loop body that keeps the files' row. -/
theorem all_stops (n : Nat) (hn : 1 ≤ n) (Bn D : Nat) (v : Value) (fs : List FRep) (w : World) (hlen : fs.length ≤ 4096) (hBn : w.cell? ⟨Bn, 0, none⟩ = some (.pointer (some ⟨D, 0, none⟩))) (hD : w.cell? ⟨D, 8, none⟩ = some v) (hr : RowI w v fs) :
    SeqStopsK Fence.wide n Try.prog 73 #[.pointer (some ⟨Bn, 0, none⟩)] (fun x : Of fs => #[ptrV x.1]) (KpR v fs) (fun ys => ys = fs.attach) (fun pre => pre <+: fs.attach) fs.length w := by
  intro l J Jx W hW _ _ hY h0
  have hBn' := (hW.cell (p := ⟨Bn, 0, none⟩) (World.block_lt_of_cell? w _ hBn)).trans hBn
  have hD' := (hW.cell (p := ⟨D, 8, none⟩) (World.block_lt_of_cell? w _ hD)).trans hD
  rcases hr with ⟨rfl, rfl⟩ | ⟨g, c, rfl, hr⟩
  · refine (all1_nil n l Bn D W hBn' hD').mono ?_
    rintro e W' ⟨hv, rfl⟩
    exact ⟨hv, .inl ⟨[], rfl, h0⟩⟩
  · exact all1_some n hn l Bn D g c fs J Jx hlen hY W hBn' hD' (fun j f hf => (hW.cell (p := ⟨g, j, none⟩) (World.block_lt_of_cell? w _ (hr j f hf))).trans (hr j f hf)) h0

theorem KpR.trans {v : Value} {fs : List FRep} {A B C : World} (h : KpR v fs A B) (k : KpR v fs B C) : KpR v fs A C := fun hr => k (h hr)

theorem KpR.putObj {v : Value} {fs : List FRep} {w : World} (hv : ∀ g, v.ownBlock = some g → g < w.heap.size) (W : World) (l : Nat) (o o' : Obj) (hl : w.heap.size ≤ l) (_ : W.heap[l]? = some o) (_ : o.isCells = false) (_ : o.isWalk = false) : KpR v fs W (W.putObj l o') :=
  KpR.of_same (fun g e => World.putObj_heap_other (fun e' => by have := hv g e; omega))

theorem DiskOK.rowI {w : World} {role : Role} {D : Nat} {s : DSt} (h : DiskOK w role D s) : RowI w s.filesV s.fs := by
  rcases h.files.2 with ⟨e, h0⟩ | ⟨g, cap, cur, e, hb, hg, hn, hm, hz, ht⟩
  · exact .inl ⟨e, List.eq_nil_of_length_eq_zero h0⟩
  · refine .inr ⟨g, cap, e, fun j f hf => ?_⟩
    have hj := (List.getElem?_eq_some_iff.1 hf).1
    have h1 : (s.fs.map ptrV)[j]? = some (ptrV f) := by simp [hf]
    rw [← ht, List.getElem?_take, if_pos (by omega)] at h1
    exact blk_cell hg (by simpa using h1)

end Go.Proofs.Ytcceaokldphfgaa
