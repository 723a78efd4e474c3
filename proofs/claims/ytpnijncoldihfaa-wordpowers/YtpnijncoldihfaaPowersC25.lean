/-
  The document's long division.
-/
import Derived.Test.YtpnijncoldihfaaPowersC14
import Derived.Test.YtpnijncoldihfaaPowersC17
import Derived.Test.YtpnijncoldihfaaPowersC20
import Derived.Test.YtpnijncoldihfaaPowersC22
namespace Go.Proofs.Ytpnijncoldihfaa
open Go.RowKit Go.Shelf

set_option maxHeartbeats 2000000 in
set_option maxRecDepth 100000 in
theorem bit_any (A i : Nat) (hi : i < 544) (w : World) : Calls Try.prog 103 #[lv A, .int .i64 i] w fun e w' => e = .returned (.int .u64 (bt A i)) ∧ Below w.heap.size w w' := by
  have cA := blk_cell (heap_new w (.cells (c17 (dg A)) 76 (0, 0))) (get17 (dg A) (show i / 32 < 17 by omega))
  have hb : dg A (i / 32) / 2 ^ (i % 32) % 2 = bt A i := dg_bit A i
  have HB : Hid ((((dg A (i / 32) / 2 ^ (i % 32) % 2 : Nat)) : Int) = ((bt A i : Nat) : Int)) := by rw [hb]; show _ = _; rfl
  clear hb
  have e1 : ((i : Int)).tdiv 32 = ((i / 32 : Nat) : Int) := by rw [Int.tdiv_eq_ediv_of_nonneg (by omega)]; omega
  have e1' : IntKind.i64.wrap ((i / 32 : Nat) : Int) = ((i / 32 : Nat) : Int) := by rw [IntKind.wrap_i64]; omega
  have e2 : ((i : Int)).tmod 32 = ((i % 32 : Nat) : Int) := by rw [Int.tmod_eq_emod_of_nonneg (by omega)]; omega
  have e2' : IntKind.i64.wrap ((i % 32 : Nat) : Int) = ((i % 32 : Nat) : Int) := by rw [IntKind.wrap_i64]; omega
  have e3 : IntKind.u64.wrap ((i % 32 : Nat) : Int) = ((i % 32 : Nat) : Int) := by rw [IntKind.wrap_u64]; omega
  have g1 : ((i / 32 : Nat) : Int) < 17 := by omega
  have g2 : ((i % 32 : Nat) : Int) < 64 := by omega
  unfold lv
  generalize c17 (dg A) = ca at *
  generalize dg A (i / 32) = da at *
  generalize i / 32 = q at *
  generalize i % 32 = r at *
  clear hi
  go_enter Try.func103, Try.ntmps103
  go_wp2_with fail
  have hv : ((da : Int) / 2 ^ r).tmod 2 = ((da / 2 ^ r % 2 : Nat) : Int) := by
    have h : ((da : Int) / 2 ^ r) = ((da / 2 ^ r : Nat) : Int) := by simp
    rw [h, Int.tmod_eq_emod_of_nonneg (Int.natCast_nonneg _)]
    rfl
  go_ret
  exact ⟨by rw [hv, HB.out]; rfl, (Below.refl _ _).alloc (Nat.le_refl _) _⟩

end Go.Proofs.Ytpnijncoldihfaa

namespace Go.Proofs.Ytpnijncoldihfaa
open Go.RowKit Go.Shelf

/-- The borrow into a digit of a difference. -/
def br (A B k : Nat) : Nat := if A % 4294967296 ^ k < B % 4294967296 ^ k then 1 else 0

end Go.Proofs.Ytpnijncoldihfaa

namespace Go.Proofs.Ytpnijncoldihfaa
open Go.RowKit Go.Shelf

/-- Where a long division has come to: the cells. -/
structure SI (w wr : World) (A B : Nat) (gq gr : Nat → Nat) : Prop where
  a : wr.heap[w.heap.size]? = some (.cells (c17 (dg A)) 76 (0, 0))
  b : wr.heap[w.heap.size + 1]? = some (.cells (c17 (dg B)) 76 (0, 0))
  r4 : wr.heap[w.heap.size + 1 + 1]? = some (.cells (c17 (fun _ => 0)) 76 (0, 0))
  r5 : wr.heap[w.heap.size + 1 + 1 + 1]? = some (.cells (c17 (fun _ => 0)) 76 (0, 0))
  q : wr.heap[w.heap.size + 1 + 1 + 1 + 1]? = some (.cells (c17 gq) 76 (0, 0))
  r : wr.heap[w.heap.size + 1 + 1 + 1 + 1 + 1]? = some (.cells (c17 gr) 76 (0, 0))
  l : Below w.heap.size w wr

theorem SI.start (w : World) (A B : Nat) : SI w ((((((w.alloc (.cells (c17 (dg A)) 76 (0, 0))).alloc (.cells (c17 (dg B)) 76 (0, 0))).alloc (.cells (c17 (fun _ => 0)) 76 (0, 0))).alloc (.cells (c17 (fun _ => 0)) 76 (0, 0))).alloc (.cells (c17 (fun _ => 0)) 76 (0, 0))).alloc (.cells (c17 (fun _ => 0)) 76 (0, 0))) A B (fun _ => 0) (fun _ => 0) := by
  refine ⟨?_, ?_, ?_, ?_, ?_, ?_, ?_⟩
  · simp only [World.alloc, Array.getElem?_push, Array.size_push]; simp [Nat.add_assoc]
  · simp only [World.alloc, Array.getElem?_push, Array.size_push]; simp [Nat.add_assoc]
  · simp only [World.alloc, Array.getElem?_push, Array.size_push]; simp [Nat.add_assoc]
  · simp only [World.alloc, Array.getElem?_push, Array.size_push]; simp [Nat.add_assoc]
  · simp only [World.alloc, Array.getElem?_push, Array.size_push]; simp [Nat.add_assoc]
  · simp only [World.alloc, Array.getElem?_push, Array.size_push]; simp
  · repeat first | exact Below.refl _ _ | (refine Below.alloc ?_ (by simp <;> omega) _)

theorem SI.drew {w wr : World} {A B : Nat} {gq gr : Nat → Nat} (I : SI w wr A B gq gr) : SI w wr.drew A B gq gr := ⟨I.a, I.b, I.r4, I.r5, I.q, I.r, I.l.drew⟩

theorem SI.call {w wr w' : World} {A B : Nat} {gq gr : Nat → Nat} (I : SI w wr A B gq gr) (h : Below wr.heap.size wr w') : SI w w' A B gq gr :=
  ⟨(h.block _ (lt_of_block I.a)).trans I.a, (h.block _ (lt_of_block I.b)).trans I.b, (h.block _ (lt_of_block I.r4)).trans I.r4, (h.block _ (lt_of_block I.r5)).trans I.r5, (h.block _ (lt_of_block I.q)).trans I.q, (h.block _ (lt_of_block I.r)).trans I.r, I.l.trans (h.mono I.l.size)⟩

theorem SI.but {w wr w' : World} {A B : Nat} {gq gr g' : Nat → Nat} (I : SI w wr A B gq gr) (h : But (w.heap.size + 1 + 1 + 1 + 1 + 1) wr w') (hr : w'.heap[w.heap.size + 1 + 1 + 1 + 1 + 1]? = some (.cells (c17 g') 76 (0, 0))) : SI w w' A B gq g' :=
  ⟨(h.same _ (by omega)).trans I.a, (h.same _ (by omega)).trans I.b, (h.same _ (by omega)).trans I.r4, (h.same _ (by omega)).trans I.r5, (h.same _ (by omega)).trans I.q, hr, I.l.trans (h.below.mono (by omega))⟩

theorem SI.whole {w wr : World} {A B : Nat} {gq gr : Nat → Nat} (I : SI w wr A B gq gr) (g : Nat → Nat) : SI w (wr.setCells (w.heap.size + 1 + 1 + 1 + 1 + 1) 0 (c17 g).toList) A B gq g := by
  refine I.but (But.sets _ _ (But.refl _ _)) ?_
  have h := blk_sets (c17 g).toList 0 I.r
  rwa [putAll17] at h

theorem SI.cell {w wr : World} {A B : Nat} {gq gr : Nat → Nat} (I : SI w wr A B gq gr) {j : Nat} (hj : j < 17) (v : Nat) : SI w (wr.setCell ⟨w.heap.size + 1 + 1 + 1 + 1 + 1, j, none⟩ (.int .u64 v)) A B gq (fun i => if i = j then v else gr i) := by
  refine I.but ((But.refl _ _).set _ _) ?_
  have h := blk_set (o := j) I.r (.int .u64 v)
  rwa [set17 gr v hj] at h

/-- An operation that looks at the world and a call, in either order. -/
theorem wpAnyH_pair {P : Program} {md : Region.Mode} {ops : Array Oper} {Q : Exit → Act → World → Prop} {S : World → Prop} {i j r : Nat} {listed : Array Bool} {l : List Value} {ds : List Deferred} {w : World} (di dj : Nat) (vi vj : Value)
    (hr : Region.ready md ops listed = [i, j]) (hri : Region.ready md ops (listed.setIfInBounds i true) = [j]) (hrj : Region.ready md ops (listed.setIfInBounds j true) = [i]) (hij : i ≠ j) (hd : di ≠ dj)
    (hS : ∀ w', Below w.heap.size w w' → S w')
    (hi : ∀ (T : List Value) (w' : World) (K : Act → World → Prop), (T = l ∨ T = l.set dj vj) → Below w.heap.size w w' → K { tmps := (T.set di vi).toArray, defers := ds } w' → wpOp P ops Q i K { tmps := T.toArray, defers := ds } w')
    (hj : ∀ (T : List Value) (w' : World) (K : Act → World → Prop), (T = l ∨ T = l.set di vi) → Below w.heap.size w w' → (∀ w'', Below w'.heap.size w' w'' → K { tmps := (T.set dj vj).toArray, defers := ds } w'') → wpOp P ops Q j K { tmps := T.toArray, defers := ds } w')
    (h : ∀ w', Below w.heap.size w w' → wpAnyH P md ops Q S r ((listed.setIfInBounds i true).setIfInBounds j true) { tmps := ((l.set di vi).set dj vj).toArray, defers := ds } w') :
    wpAnyH P md ops Q S (r + 2) listed { tmps := l.toArray, defers := ds } w := by
  refine wpAnyH_all hr (by simp) (fun k hk => ?_)
  rcases List.mem_cons.1 hk with rfl | hk
  · refine hi l w _ (Or.inl rfl) (Below.refl _ _) ⟨hS _ (Below.refl _ _), ?_⟩
    refine wpAnyH_all hri (by simp) (fun m hm => ?_)
    rw [List.mem_singleton] at hm
    subst hm
    refine hj _ w _ (Or.inr rfl) (Below.refl _ _) (fun w'' hb => ⟨hS _ hb, h w'' hb⟩)
  · rw [List.mem_singleton] at hk
    subst hk
    refine hj l w _ (Or.inl rfl) (Below.refl _ _) (fun w'' hb => ⟨hS _ hb, ?_⟩)
    refine wpAnyH_all hrj (by simp) (fun m hm => ?_)
    rw [List.mem_singleton] at hm
    subst hm
    refine hi _ w'' _ (Or.inr rfl) hb ⟨hS _ hb, ?_⟩
    rw [List.set_comm _ _ (Ne.symm hd), Array.setIfInBounds_comm _ _ (Ne.symm hij)]
    exact h w'' hb

theorem put_none (a : Act) (v : Value) : a.put none v = a := rfl

/-- The end of a long division. -/
structure SE (w wr : World) (x y : Nat) : Prop where
  q : wr.heap[w.heap.size + 1 + 1 + 1 + 1]? = some (.cells (c17 (dg x)) 76 (0, 0))
  r : wr.heap[w.heap.size + 1 + 1 + 1 + 1 + 1]? = some (.cells (c17 (dg y)) 76 (0, 0))
  r4 : ∃ g, wr.heap[w.heap.size + 1 + 1]? = some (.cells (c17 g) 76 (0, 0))
  r5 : ∃ g, wr.heap[w.heap.size + 1 + 1 + 1]? = some (.cells (c17 g) 76 (0, 0))
  l : Below w.heap.size w wr

theorem SE.drew {w wr : World} {x y : Nat} (I : SE w wr x y) : SE w wr.drew x y := ⟨I.q, I.r, I.r4, I.r5, I.l.drew⟩

theorem oneCell17 (g : Nat → Nat) : (c17 g).all (·.oneCell') = true := by simp [c17, Value.oneCell']

end Go.Proofs.Ytpnijncoldihfaa
