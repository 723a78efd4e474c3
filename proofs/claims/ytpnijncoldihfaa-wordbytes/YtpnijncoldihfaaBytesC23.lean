/-
  A word that is put together bit by bit.
-/
import Derived.Test.YtpnijncoldihfaaBytesC15
import Derived.Test.YtpnijncoldihfaaBytesC18
import Derived.Test.YtpnijncoldihfaaBytesC20
import Derived.Test.YtpnijncoldihfaaBytesC21
import Derived.Test.YtpnijncoldihfaaBytesC22
namespace Go.Proofs.Ytpnijncoldihfaa
open Go.RowKit Go.Shelf

/-- Where a long division has come to: the cells. -/
structure SI (w wr : World) (A B : Nat) (gq gr : Nat → Nat) : Prop where
  a : wr.heap[w.heap.size]? = some (.cells (c17 (dg A)) 76 (0, 0))
  b : wr.heap[w.heap.size + 1]? = some (.cells (c17 (dg B)) 76 (0, 0))
  r4 : wr.heap[w.heap.size + 1 + 1]? = some (.cells (c17 (fun _ => 0)) 76 (0, 0))
  r5 : wr.heap[w.heap.size + 1 + 1 + 1]? = some (.cells (c17 (fun _ => 0)) 76 (0, 0))
  q : wr.heap[w.heap.size + 1 + 1 + 1 + 1]? = some (.cells (c17 gq) 76 (0, 0))
  r : wr.heap[w.heap.size + 1 + 1 + 1 + 1 + 1]? = some (.cells (c17 gr) 76 (0, 0))
  l : Below w.heap.size w wr

theorem SI.start (w : World) (A B : Nat) : SI w ((((((w.alloc (.cells (c17 (dg A)) 76 (0, 0))).alloc (.cells (c17 (dg B)) 76 (0, 0))).alloc (.cells (c17 (fun _ => 0)) 76 (0, 0))).alloc (.cells (c17 (fun _ => 0)) 76 (0, 0))).alloc (.cells (c17 (fun _ => 0)) 76 (0, 0))).alloc (.cells (c17 (fun _ => 0)) 76 (0, 0))) A B (fun _ => 0) (fun _ => 0) := by
  refine ⟨?_, ?_, ?_, ?_, ?_, ?_, ?_⟩
  · simp only [World.alloc, Array.getElem?_push, Array.size_push]; simp [Nat.add_assoc]
  · simp only [World.alloc, Array.getElem?_push, Array.size_push]; simp [Nat.add_assoc]
  · simp only [World.alloc, Array.getElem?_push, Array.size_push]; simp [Nat.add_assoc]
  · simp only [World.alloc, Array.getElem?_push, Array.size_push]; simp [Nat.add_assoc]
  · simp only [World.alloc, Array.getElem?_push, Array.size_push]; simp [Nat.add_assoc]
  · simp only [World.alloc, Array.getElem?_push, Array.size_push]; simp
  · repeat first | exact Below.refl _ _ | (refine Below.alloc ?_ (by simp <;> omega) _)

theorem SI.drew {w wr : World} {A B : Nat} {gq gr : Nat → Nat} (I : SI w wr A B gq gr) : SI w wr.drew A B gq gr := ⟨I.a, I.b, I.r4, I.r5, I.q, I.r, I.l.drew⟩

theorem SI.call {w wr w' : World} {A B : Nat} {gq gr : Nat → Nat} (I : SI w wr A B gq gr) (h : Below wr.heap.size wr w') : SI w w' A B gq gr :=
  ⟨(h.block _ (lt_of_block I.a)).trans I.a, (h.block _ (lt_of_block I.b)).trans I.b, (h.block _ (lt_of_block I.r4)).trans I.r4, (h.block _ (lt_of_block I.r5)).trans I.r5, (h.block _ (lt_of_block I.q)).trans I.q, (h.block _ (lt_of_block I.r)).trans I.r, I.l.trans (h.mono I.l.size)⟩

theorem SI.but {w wr w' : World} {A B : Nat} {gq gr g' : Nat → Nat} (I : SI w wr A B gq gr) (h : But (w.heap.size + 1 + 1 + 1 + 1 + 1) wr w') (hr : w'.heap[w.heap.size + 1 + 1 + 1 + 1 + 1]? = some (.cells (c17 g') 76 (0, 0))) : SI w w' A B gq g' :=
  ⟨(h.same _ (by omega)).trans I.a, (h.same _ (by omega)).trans I.b, (h.same _ (by omega)).trans I.r4, (h.same _ (by omega)).trans I.r5, (h.same _ (by omega)).trans I.q, hr, I.l.trans (h.below.mono (by omega))⟩

theorem SI.whole {w wr : World} {A B : Nat} {gq gr : Nat → Nat} (I : SI w wr A B gq gr) (g : Nat → Nat) : SI w (wr.setCells (w.heap.size + 1 + 1 + 1 + 1 + 1) 0 (c17 g).toList) A B gq g := by
  refine I.but (But.sets _ _ (But.refl _ _)) ?_
  have h := blk_sets (c17 g).toList 0 I.r
  rwa [putAll17] at h

theorem SI.cell {w wr : World} {A B : Nat} {gq gr : Nat → Nat} (I : SI w wr A B gq gr) {j : Nat} (hj : j < 17) (v : Nat) : SI w (wr.setCell ⟨w.heap.size + 1 + 1 + 1 + 1 + 1, j, none⟩ (.int .u64 v)) A B gq (fun i => if i = j then v else gr i) := by
  refine I.but ((But.refl _ _).set _ _) ?_
  have h := blk_set (o := j) I.r (.int .u64 v)
  rwa [set17 gr v hj] at h

theorem put_none (a : Act) (v : Value) : a.put none v = a := rfl

/-- The end of a long division. -/
structure SE (w wr : World) (x y : Nat) : Prop where
  q : wr.heap[w.heap.size + 1 + 1 + 1 + 1]? = some (.cells (c17 (dg x)) 76 (0, 0))
  r : wr.heap[w.heap.size + 1 + 1 + 1 + 1 + 1]? = some (.cells (c17 (dg y)) 76 (0, 0))
  r4 : ∃ g, wr.heap[w.heap.size + 1 + 1]? = some (.cells (c17 g) 76 (0, 0))
  r5 : ∃ g, wr.heap[w.heap.size + 1 + 1 + 1]? = some (.cells (c17 g) 76 (0, 0))
  l : Below w.heap.size w wr

theorem SE.drew {w wr : World} {x y : Nat} (I : SE w wr x y) : SE w wr.drew x y := ⟨I.q, I.r, I.r4, I.r5, I.l.drew⟩

end Go.Proofs.Ytpnijncoldihfaa

namespace Go.Proofs.Ytpnijncoldihfaa
open Go.RowKit Go.Shelf

/-- Where a word that is put together bit by bit has come to. -/
structure BI (w wr : World) (bx br O A V : Nat) : Prop where
  x : wr.heap[bx]? = some (.cells (c4 (limb A)) 23 (0, 0))
  r : wr.heap[br]? = some (.cells (c4 (fun _ => 0)) 23 (0, 0))
  o : wr.heap[O]? = some (.cells (c4 (limb V)) 23 (0, 0))
  n1 : O ≠ bx
  n2 : O ≠ br
  h1 : w.heap.size ≤ br
  h2 : w.heap.size ≤ O
  b : Below w.heap.size w wr

theorem BI.drew {w wr : World} {bx br O A V : Nat} (I : BI w wr bx br O A V) : BI w wr.drew bx br O A V := ⟨I.x, I.r, I.o, I.n1, I.n2, I.h1, I.h2, I.b.drew⟩

theorem BI.call {w wr w' : World} {bx br O A V : Nat} (I : BI w wr bx br O A V) (h : Below wr.heap.size wr w') : BI w w' bx br O A V :=
  ⟨(h.block _ (lt_of_block I.x)).trans I.x, (h.block _ (lt_of_block I.r)).trans I.r, (h.block _ (lt_of_block I.o)).trans I.o, I.n1, I.n2, I.h1, I.h2, I.b.trans (h.mono I.b.size)⟩

theorem BI.put {w wr : World} {bx br O A V : Nat} (I : BI w wr bx br O A V) (V' : Nat) : BI w (wr.setCells O 0 (c4 (limb V')).toList) bx br O A V' := by
  have h := But.sets (c4 (limb V')).toList 0 (But.refl O wr)
  have ho := blk_sets (c4 (limb V')).toList 0 I.o
  rw [putAll4] at ho
  exact ⟨(h.same _ (Ne.symm I.n1)).trans I.x, (h.same _ (Ne.symm I.n2)).trans I.r, ho, I.n1, I.n2, I.h1, I.h2, I.b.trans (h.below.mono I.h2)⟩

theorem limb_nought : limb 0 = fun _ => 0 := by funext j; simp [limb]

end Go.Proofs.Ytpnijncoldihfaa
